/- Contracts of functions of the program, and what they are made of (parser; Pk22). -/
import Derived.Test.YtjehhldboopocaaGreatDoorPk08
import Derived.Test.YtjehhldboopocaaGreatDoorPk10
import Derived.Test.YtjehhldboopocaaGreatDoorPk12
import Derived.Test.YtjehhldboopocaaGreatDoorPk20
import Derived.Test.YtjehhldboopocaaGreatDoorPk21
namespace Go.Proofs.YtjehhldboopocaaGreatDoor.Lx
open Go.RowKit Go.Lib
set_option linter.unusedVariables false
section
variable {w0 : World} {ta : Option Addr} {tc : Nat} {toks : List Tm} {Z : Nat → Prop} {R i : Nat} {G : Value} {L : List Xp} {w : World}
/-- What an expression that was read leaves. -/
def Left1 (w0 : World) (ta : Option Addr) (tc : Nat) (toks : List Tm) (Z : Nat → Prop) (R i : Nat) (G : Value) (L : List Xp) (x : Xp) (w w' : World) : Prop := ∃ G', RS w0 ta tc toks Z R i G' (L ++ [x]) w' ∧ Fm R G G' w w'
set_option maxHeartbeats 4000000 in
set_option maxRecDepth 100000 in
theorem literal_any (hE : toks.length ≤ 1073741824) (h : RS w0 ta tc toks Z R i G L w) (hZ : ∀ k, Z k → k < w.heap.size) (hL1 : L.length + 1 ≤ i) (vk : Int) (vt : Bool) (vi : Int) (vs : ByteArray)
    (hk : -9223372036854775808 ≤ vk ∧ vk ≤ 9223372036854775807) (hi : -9223372036854775808 ≤ vi ∧ vi ≤ 9223372036854775807) (hs : vs.size ≤ 140737488351232) :
    Calls Tryz.prog 228 #[.pointer (some ⟨R, 0, none⟩), .agg #[.int .i64 vk, .bool vt, .int .i64 vi, .string vs, .slice none 0 0, .slice none 0 0]] w fun e w' => e = .returned (.tuple #[]) ∧ Left1 w0 ta tc toks Z R i G L (.mk 1 (litV vk vt vi vs) [] [] []) w w' := by
  have B := Lib.hid (fun (W : World) (hb : Below w.heap.size w W) => build_any (A := []) hE (show RS w0 ta tc toks Z R i G (L ++ []) W by rw [List.append_nil]; exact h.on hb) (fun k hk => by have := hZ k hk; have := hb.size; omega) hL1 0 rfl 1 [] (by omega) (by simp))
  have T := Lib.hid (fun (g cap : Nat) (w2 : World) (h2 : RS w0 ta tc toks Z R i (.slice (some ⟨g, 0, none⟩) (L.length + 1) cap) (L ++ [.mk 1 zeroV [] [] []]) w2) => top_lit h2 vk vt vi vs hk hi hs _ rfl)
  have B0 := Lib.hid ((Below.refl w.heap.size w).alloc (Nat.le_refl _) (.cells #[.int .i64 vk, .bool vt, .int .i64 vi, .string vs, .slice none 0 0, .slice none 0 0] 26))
  have C0 := Lib.hid (CellsAt.new w 26 #[.int .i64 vk, .bool vt, .int .i64 vi, .string vs, .slice none 0 0, .slice none 0 0])
  have hglt := h.glt
  have KEEP := Lib.hid (fun (G' : Value) (w2 : World) (hf : Fm R G G' (w.alloc (.cells #[.int .i64 vk, .bool vt, .int .i64 vi, .string vs, .slice none 0 0, .slice none 0 0] 26)).drew w2) => C0.out.of_block (hf.block w.heap.size (by simp) (by have := h.Rlt; omega) (fun e => by have := (hglt _ e.symm).2; omega)))
  have hRlt := h.Rlt
  clear h hZ hL1 hk hi hs hE
  go_enter Tryz.func228, Tryz.ntmps228
  go_wp2_with fail
  go_region_with (go_at_call 92; go_fit (B.out _ B0.out.drew); rintro e w2 ⟨g, cap, rfl, h1, h2⟩; have H1 := Lib.hid h1; have H2 := Lib.hid h2; obtain ⟨hc, hf⟩ := top_cells h1; obtain ⟨u2, d2⟩ := hc 2 (by decide); obtain ⟨u3, d3⟩ := hc 3 (by decide); obtain ⟨u4, d4⟩ := hc 4 (by decide); obtain ⟨u5, d5⟩ := hc 5 (by decide); obtain ⟨u6, d6⟩ := hc 6 (by decide); obtain ⟨u7, d7⟩ := hc 7 (by decide); have f2 := hf (L.length * 10 + 2); have f3 := hf (L.length * 10 + 3); have f4 := hf (L.length * 10 + 4); have f5 := hf (L.length * 10 + 5); have f6 := hf (L.length * 10 + 6); have f7 := hf (L.length * 10 + 7); have KB := KEEP.out _ _ h2; have k0 := KB.cell (k := 0) (u := .int .i64 vk) rfl; have k1 := KB.cell (k := 1) (u := .bool vt) rfl; have k2 := KB.cell (k := 2) (u := .int .i64 vi) rfl; have k3 := KB.cell (k := 3) (u := .string vs) rfl; have k4 := KB.cell (k := 4) (u := .slice none 0 0) rfl; have k5 := KB.cell (k := 5) (u := .slice none 0 0) rfl; clear h1 h2 hc hf KB; go_wp2_with fail)
  all_goals
    go_wp2_with fail
    go_end0
    obtain ⟨t1, t2⟩ := T.out g cap w2 H1.out
    exact ⟨rfl, _, t1, ((Fm.of_below B0.out.drew).trans H2.out).trans t2⟩
theorem dec_beq (l m : List UInt8) : decide (l = m) = (l == m) := by
  by_cases h : l = m
  · simp [h]
  · rw [decide_eq_false h]; symm; rw [beq_eq_false_iff_ne]; exact h
set_option maxHeartbeats 1000000 in
set_option maxRecDepth 100000 in
theorem isWord_any (s : List UInt8) (w : World) : Calls Tryz.prog 169 #[.string ⟨s.toArray⟩] w fun e w' => e = .returned (.bool (wordB s)) ∧ w' = w := by
  obtain ⟨sx, hsx⟩ : ∃ sx : ByteArray, sx = ⟨s.toArray⟩ := ⟨_, rfl⟩
  have hl : sx.toList = s := by rw [ByteArray.toList_eq, hsx]
  have K := Lib.hid (show wordB s = (sx.toList == [116, 114, 117, 101] || sx.toList == [102, 97, 108, 115, 101] || sx.toList == [110, 117, 108, 108]) by
    rw [hl]
    unfold wordB truS falS nulS
    rw [dec_beq, dec_beq, dec_beq]
    cases (s == [110, 117, 108, 108]) <;> cases (s == [116, 114, 117, 101]) <;> cases (s == [102, 97, 108, 115, 101]) <;> rfl)
  rw [← hsx]
  clear hsx hl
  go_enter Tryz.func169, Tryz.ntmps169
  go_wp2_with fail
  all_goals
    go_ret
    refine ⟨?_, rfl⟩
    rw [K.out]
    simp_all
set_option maxHeartbeats 1000000 in
set_option maxRecDepth 100000 in
theorem isUnary_any (s : List UInt8) (w : World) : Calls Tryz.prog 133 #[.string ⟨s.toArray⟩] w fun e w' => e = .returned (.bool (decide (s = [33]) || decide (s = [45]))) ∧ w' = w := by
  obtain ⟨sx, hsx⟩ : ∃ sx : ByteArray, sx = ⟨s.toArray⟩ := ⟨_, rfl⟩
  have hl : sx.toList = s := by rw [ByteArray.toList_eq, hsx]
  have K := Lib.hid (show (decide (s = [33]) || decide (s = [45])) = (sx.toList == [33] || sx.toList == [45]) by
    rw [hl, dec_beq, dec_beq])
  rw [← hsx]
  clear hsx hl
  go_enter Tryz.func133, Tryz.ntmps133
  go_wp2_with fail
  all_goals
    go_ret
    refine ⟨?_, rfl⟩
    rw [K.out]
    simp_all
set_option maxHeartbeats 4000000 in
set_option maxRecDepth 100000 in
theorem opStr_any (s : List UInt8) (w : World) : Calls Tryz.prog 66 #[.string ⟨s.toArray⟩] w fun e w' => e = .returned (.int .i64 (strB s : Nat)) ∧ w' = w := by
  obtain ⟨sx, hsx⟩ : ∃ sx : ByteArray, sx = ⟨s.toArray⟩ := ⟨_, rfl⟩
  have hl : sx.toList = s := by rw [ByteArray.toList_eq, hsx]
  have K := Lib.hid hl
  rw [← hsx]
  clear hsx hl
  go_enter Tryz.func66, Tryz.ntmps66
  go_wp2_with fail
  all_goals
    go_ret
    refine ⟨?_, rfl⟩
    rw [← K.out]
    unfold strB
    simp_all
set_option maxRecDepth 100000 in
theorem fstStr_any (n : Nat) (hn : n ≤ 6) (w : World) : Calls Tryz.prog 67 #[.int .i64 n] w fun e w' => e = .returned (.int .i64 (fstS n : Nat)) ∧ w' = w := by
  by_cases h : n = 4
  · subst h
    go_enter Tryz.func67, Tryz.ntmps67
    go_wp2_with fail
    go_ret
    exact ⟨rfl, rfl⟩
  · have g : ((n : Int) == 4) = false := by rw [beq_eq_false_iff_ne]; omega
    rw [show fstS n = n by unfold fstS; rw [if_neg h]]
    go_enter Tryz.func67, Tryz.ntmps67
    go_wp2_with fail
    go_ret
    exact ⟨rfl, rfl⟩
set_option maxRecDepth 100000 in
theorem field_text (k na : Int) (sx : ByteArray) (w : World) : (Instr.field 52 (.agg #[.int .i64 k, .string sx, .int .i64 na]) 1).run Tryz.prog w = .ok (.string sx) w := by kernel_rfl
set_option maxRecDepth 100000 in
/-- Reading a member's name, or the error. -/
theorem member_yes (hE : EnvR w0 ta toks) (h : RS w0 ta tc toks Z R i G L w) {s : List UInt8} (hx : nxt toks i = (1, s)) (hw : wordB s = false) :
    Calls Tryz.prog 204 #[.pointer (some ⟨R, 0, none⟩)] w fun e w' => e = .returned (.string ⟨s.toArray⟩) ∧ Read1 w0 ta tc toks Z R i G L w w' := by
  obtain ⟨na, hc⟩ := h.box
  have D := Lib.hid (read_any hE h (nxt_lt hx (by decide)))
  have W := Lib.hid (isWord_any s w)
  rw [hw] at W
  rw [hx] at hc D
  have c2 := hc.cell (k := 2) (u := .int .i64 1) rfl
  have c3 := hc.cell (k := 3) (u := .string ⟨s.toArray⟩) rfl
  obtain ⟨sx, hsx⟩ : ∃ sx : ByteArray, sx = ⟨s.toArray⟩ := ⟨_, rfl⟩
  dsimp only at D
  rw [← hsx] at c3 D W ⊢
  clear hc hsx h hx hE hw
  have ft := field_text
  go_enter Tryz.func204, Tryz.ntmps204
  go_wp2_with fail
  go_fit W.out
  rintro e w1 ⟨rfl, rfl⟩
  go_wp2_with fail
  go_fit D.out
  rintro e w2 ⟨na, rfl, h1, h2⟩
  have H1 := Lib.hid h1
  have H2 := Lib.hid h2
  clear h1 h2
  go_wp2_with fail
  go_ret
  exact ⟨rfl, H1.out, H2.out⟩
set_option maxRecDepth 100000 in
theorem member_no (h : RS w0 ta tc toks Z R i G L w) (hx : ∀ s, nxt toks i = (1, s) → wordB s = true) :
    Calls Tryz.prog 204 #[.pointer (some ⟨R, 0, none⟩)] w fun e w' => e = PanE (miss (tsOf toks) i) ∧ Below w.heap.size w w' := by
  obtain ⟨na, hc⟩ := h.box
  have F := Lib.hid (refusal_any h)
  obtain ⟨er, her⟩ : ∃ er, er = miss (tsOf toks) i := ⟨_, rfl⟩
  rw [← her] at F ⊢
  obtain ⟨⟨k, s⟩, hn⟩ : ∃ x, x = nxt toks i := ⟨_, rfl⟩
  rw [← hn] at hx hc
  have c2 := hc.cell (k := 2) (u := .int .i64 k) rfl
  have c3 := hc.cell (k := 3) (u := .string ⟨s.toArray⟩) rfl
  have W := Lib.hid (isWord_any s w)
  by_cases hk : k = 1
  · subst hk
    rw [hx s rfl] at W
    obtain ⟨sx, hsx⟩ : ∃ sx : ByteArray, sx = ⟨s.toArray⟩ := ⟨_, rfl⟩
    rw [← hsx] at c3 W
    clear hc hsx h hx hn her
    go_enter Tryz.func204, Tryz.ntmps204
    go_wp2_with fail
    go_fit W.out
    rintro e w1 ⟨rfl, rfl⟩
    go_wp2_with fail
    go_fit F.out
    rintro e w2 ⟨rfl, hb⟩
    have HB := Lib.hid hb
    clear hb
    go_wp2_with fail
    exact ⟨rfl, rfl, HB.out⟩
  · have g : (k != 1) = true := by rw [bne_iff_ne]; exact hk
    clear hc h hx hn her hk W c3
    go_enter Tryz.func204, Tryz.ntmps204
    go_wp2_with fail
    go_fit F.out
    rintro e w2 ⟨rfl, hb⟩
    have HB := Lib.hid hb
    clear hb
    go_wp2_with fail
    exact ⟨rfl, rfl, HB.out⟩
set_option maxRecDepth 100000 in
theorem key_yes (hE : EnvR w0 ta toks) (h : RS w0 ta tc toks Z R i G L w) {k : Int} {s : List UInt8} (hx : nxt toks i = (k, s)) (hk : k = 1 ∨ k = 3) :
    Calls Tryz.prog 246 #[.pointer (some ⟨R, 0, none⟩)] w fun e w' => e = .returned (.string ⟨s.toArray⟩) ∧ Read1 w0 ta tc toks Z R i G L w w' := by
  obtain ⟨na, hc⟩ := h.box
  have D := Lib.hid (read_any hE h (nxt_lt hx (by omega)))
  rw [hx] at hc D
  have c2 := hc.cell (k := 2) (u := .int .i64 k) rfl
  obtain ⟨sx, hsx⟩ : ∃ sx : ByteArray, sx = ⟨s.toArray⟩ := ⟨_, rfl⟩
  dsimp only at D
  rw [← hsx] at D ⊢
  clear hc hsx h hx hE
  rcases hk with rfl | rfl
  all_goals
    have ft := field_text
    go_enter Tryz.func246, Tryz.ntmps246
    go_wp2_with fail
    go_fit D.out
    rintro e w2 ⟨na, rfl, h1, h2⟩
    have H1 := Lib.hid h1
    have H2 := Lib.hid h2
    clear h1 h2
    go_wp2_with fail
    go_ret
    exact ⟨rfl, H1.out, H2.out⟩
set_option maxRecDepth 100000 in
theorem key_no (h : RS w0 ta tc toks Z R i G L w) (h1 : (nxt toks i).1 ≠ 1) (h3 : (nxt toks i).1 ≠ 3) :
    Calls Tryz.prog 246 #[.pointer (some ⟨R, 0, none⟩)] w fun e w' => e = PanE (miss (tsOf toks) i) ∧ Below w.heap.size w w' := by
  obtain ⟨na, hc⟩ := h.box
  have F := Lib.hid (refusal_any h)
  obtain ⟨er, her⟩ : ∃ er, er = miss (tsOf toks) i := ⟨_, rfl⟩
  rw [← her] at F ⊢
  obtain ⟨⟨k, s⟩, hn⟩ : ∃ x, x = nxt toks i := ⟨_, rfl⟩
  rw [← hn] at h1 h3 hc
  have c2 := hc.cell (k := 2) (u := .int .i64 k) rfl
  have g1 : (k != 1) = true := by rw [bne_iff_ne]; exact h1
  have g3 : (k != 3) = true := by rw [bne_iff_ne]; exact h3
  clear hc h h1 h3 hn her
  go_enter Tryz.func246, Tryz.ntmps246
  go_wp2_with fail
  go_fit F.out
  rintro e w2 ⟨rfl, hb⟩
  have HB := Lib.hid hb
  clear hb
  go_wp2_with fail
  exact ⟨rfl, rfl, HB.out⟩
end
end Go.Proofs.YtjehhldboopocaaGreatDoor.Lx
namespace Go.Proofs.YtjehhldboopocaaGreatDoor.Lx
open Go.RowKit Go.Lib
/-- A name that a source can have and that is no word. -/
def plainB (s : List UInt8) : Bool := inS 1 s && !wordB s

set_option maxHeartbeats 1000000 in
set_option maxRecDepth 100000 in
theorem isPlain_any (s : List UInt8) (hs : s.length ≤ 1099511627776) (w : World) (hT : TabL w) : Calls Tryz.prog 132 #[.string ⟨s.toArray⟩] w fun e w' => e = .returned (.bool (plainB s)) ∧ Below w.heap.size w w' := by
  have A := Lib.hid (inSources_any ⟨1, s, 0⟩ hs w hT)
  have B := Lib.hid (fun w => isWord_any s w)
  obtain ⟨q, hq⟩ : ∃ q, q = inS 1 s := ⟨_, rfl⟩
  obtain ⟨p, hp⟩ : ∃ p, p = wordB s := ⟨_, rfl⟩
  have E := Lib.hid (show plainB s = (q && !p) by unfold plainB; rw [hq, hp])
  dsimp only at A
  rw [← hq] at A
  rw [← hp] at B
  obtain ⟨sx, hsx⟩ : ∃ sx : ByteArray, sx = ⟨s.toArray⟩ := ⟨_, rfl⟩
  rw [← hsx] at A B ⊢
  clear hq hp hsx hs hT
  cases q
  · go_enter Tryz.func132, Tryz.ntmps132
    go_wp2_with fail
    go_fit A.out
    rintro e w1 ⟨rfl, hb⟩
    have HB := Lib.hid hb
    clear hb
    go_wp2_with fail
    go_ret
    exact ⟨by rw [E.out]; rfl, HB.out⟩
  · go_enter Tryz.func132, Tryz.ntmps132
    go_wp2_with fail
    go_fit A.out
    rintro e w1 ⟨rfl, hb⟩
    have HB := Lib.hid hb
    clear hb
    go_wp2_with fail
    go_fit (B.out _)
    rintro e w2 ⟨rfl, rfl⟩
    go_wp2_with fail
    go_ret
    exact ⟨by rw [E.out, Bool.true_and]; rfl, HB.out⟩

theorem notKeyP_any (s : ByteArray) (w : World) :
    Calls Tryz.prog 135 #[.string s] w fun e w' => e = .returned (.bool (!keyB s.data.toList)) ∧ Below w.heap.size w w' := by
  have hk := Lib.hid (keyB_str s)
  have h1 : s.toList.isEmpty = decide (s.size = 0) := empty_iff s
  by_cases h0 : s.size = 0
  · rw [decide_eq_true h0] at h1
    have H := Lib.hid h0
    clear h0
    go_enter Tryz.func135, Tryz.ntmps135
    go_wp2_with fail
    go_ret
    exact ⟨by rw [hk.out, H.out]; rfl, by repeat (first | exact Below.refl _ _ | refine Below.setCell ?_ (by simp <;> omega) _ | refine Below.alloc ?_ (by simp <;> omega) _)⟩
  · rw [decide_eq_false h0] at h1
    by_cases h2 : s.size ≤ 64
    · have g : ¬ (64 : Int) < (s.size : Int) := by omega
      have H := Lib.hid (show keyB s.data.toList = true by rw [hk.out, decide_eq_true (by omega), decide_eq_true h2]; rfl)
      clear h0 h2
      go_enter Tryz.func135, Tryz.ntmps135
      go_wp2_with fail
      go_ret
      exact ⟨by rw [H.out]; simp, by repeat (first | exact Below.refl _ _ | refine Below.setCell ?_ (by simp <;> omega) _ | refine Below.alloc ?_ (by simp <;> omega) _)⟩
    · have g : (64 : Int) < (s.size : Int) := by omega
      have H := Lib.hid (show keyB s.data.toList = false by rw [hk.out, decide_eq_false h2, Bool.and_false])
      clear h0 h2
      go_enter Tryz.func135, Tryz.ntmps135
      go_wp2_with fail
      go_ret
      exact ⟨by rw [H.out]; simp, by repeat (first | exact Below.refl _ _ | refine Below.setCell ?_ (by simp <;> omega) _ | refine Below.alloc ?_ (by simp <;> omega) _)⟩

set_option maxHeartbeats 1000000 in
theorem indexBadP_any (v : Option Addr) (cap : Nat) (L : List (List UInt8)) (hl : L.length ≤ 9223372036854775000) (w : World) (hr : ReadsStr w v L) :
    Calls Tryz.prog 170 #[.slice v L.length cap, .func (.func 135) #[] #[]] w fun e w' => (∃ z : Int, e = .returned (.int .i64 z) ∧ (decide (0 ≤ z) = !L.all keyB)) ∧ Below w.heap.size w w' := by
  have HR := Lib.hid hr
  clear hr
  go_enter Tryz.func170, Tryz.ntmps170
  go_wp2_with fail
  go_loopw [8] (fun s8 wr => ∃ i : Nat, i ≤ L.length ∧ s8 = .int .i64 i ∧ L.all keyB = (L.drop i).all keyB ∧ Below w.heap.size w wr) (fun s8 _ => L.length - (RowKit.intOf s8).toNat)
  case atStart => exact ⟨0, by omega, rfl, rfl, Below.refl _ _⟩
  case round =>
    obtain ⟨i, hi, rfl, hd, hbel⟩ := hrel
    have HD := Lib.hid hd
    have HB := Lib.hid hbel
    have HR1 := Lib.hid (HR.out.below hbel)
    clear hd hbel
    by_cases hlt : i < L.length
    · obtain ⟨b, off, rfl, hb, hc⟩ := HR1.out i hlt
      have F := Lib.hid (fun w => notKeyP_any ⟨L[i].toArray⟩ w)
      have h1 : (L.drop i).all keyB = (keyB L[i] && (L.drop (i + 1)).all keyB) := by rw [List.drop_eq_getElem_cons hlt, List.all_cons]
      rw [show (⟨L[i].toArray⟩ : ByteArray).data.toList = L[i] by simp] at F
      generalize keyB L[i] = q at F h1
      generalize (⟨L[i].toArray⟩ : ByteArray) = x at hc F
      cases q
      · have HF := Lib.hid (show L.all keyB = false by rw [HD.out, h1]; rfl)
        clear h1
        go_wp2_with fail
        go_fit (F.out _)
        rintro e w1 ⟨rfl, hb2⟩
        have HB2 := Lib.hid (HB.out.trans (hb2.mono HB.out.size))
        clear hb2
        go_wp2_with fail
        go_ret
        exact ⟨⟨_, rfl, by rw [HF.out]; simp⟩, HB2.out⟩
      · have HF := Lib.hid (show L.all keyB = (L.drop (i + 1)).all keyB by rw [HD.out, h1]; rfl)
        clear h1
        go_wp2_with fail
        go_fit (F.out _)
        rintro e w1 ⟨rfl, hb2⟩
        have HB2 := Lib.hid (HB.out.trans (hb2.mono HB.out.size))
        clear hb2
        go_wp2_with fail
        exact ⟨⟨i + 1, by omega, by go_num, HF.out, HB2.out⟩, by simp [RowKit.intOf]; omega⟩
    · obtain rfl : i = L.length := by omega
      have HF := Lib.hid (show L.all keyB = true by rw [HD.out]; simp)
      go_wp2_with fail
      go_ret
      exact ⟨⟨_, rfl, by rw [HF.out]; rfl⟩, HB.out⟩
set_option maxHeartbeats 1000000 in
theorem containsBadP_any (v : Option Addr) (cap : Nat) (L : List (List UInt8)) (hl : L.length ≤ 9223372036854775000) (w : World) (hr : ReadsStr w v L) :
    Calls Tryz.prog 134 #[.slice v L.length cap, .func (.func 135) #[] #[]] w fun e w' => e = .returned (.bool (!L.all keyB)) ∧ Below w.heap.size w w' := by
  have X := Lib.hid (indexBadP_any v cap L hl w hr)
  clear hr
  go_enter Tryz.func134, Tryz.ntmps134
  go_wp2_with fail
  go_fit X.out
  rintro e w1 ⟨⟨z, rfl, hz⟩, hb⟩
  have HZ := Lib.hid hz
  have HB := Lib.hid hb
  clear hz hb
  go_wp2_with fail
  go_ret
  exact ⟨by rw [← HZ.out]; rfl, HB.out⟩
/-- Whether an expression of a kind may have a name. -/
def nameOk (k : Int) (n : List UInt8) : Bool :=
  if k = 2 ∨ k = 3 ∨ k = 5 then plainB n else if k = 6 then decide (n = [33]) || decide (n = [45]) else if k = 7 then decide (0 < strB n) else decide (n = [])
def argsOk (k : Int) (n : Nat) : Bool :=
  if k = 1 ∨ k = 2 then decide (n = 0) else if k = 3 ∨ k = 6 then decide (n = 1) else if k = 4 ∨ k = 7 then decide (n = 2) else if k = 8 then decide (n = 3) else true
def keysOk (k : Int) (n : Nat) (ks : List (List UInt8)) : Bool :=
  if k = 10 then decide (ks.length = n) && ks.all keyB else decide (ks.length = 0)

set_option maxHeartbeats 2000000 in
set_option maxRecDepth 100000 in
theorem hasArgs_any (k : Int) (nx : ByteArray) (vk : Int) (vt : Bool) (vi : Int) (vs : ByteArray) (s1 s2 s3 s4 : Option Addr) (a1 b1 a2 b2 a3 b3 a4 b4 : Nat) (w : World) :
    Calls Tryz.prog 96 #[.agg #[.int .i64 k, .string nx, .int .i64 vk, .bool vt, .int .i64 vi, .string vs, .slice s1 a1 b1, .slice s2 a2 b2, .slice s3 a3 b3, .slice s4 a4 b4]] w fun e w' => e = .returned (.bool (argsOk k a3)) ∧ Below w.heap.size w w' := by
  have E := Lib.hid (show argsOk k a3 = if (k == 1) = true then ((a3 : Int) == 0) else if (k == 2) = true then ((a3 : Int) == 0) else if (k == 3) = true then ((a3 : Int) == 1) else if (k == 6) = true then ((a3 : Int) == 1) else if (k == 4) = true then ((a3 : Int) == 2) else if (k == 7) = true then ((a3 : Int) == 2) else if (k == 8) = true then ((a3 : Int) == 3) else true by
    unfold argsOk
    simp only [beq_iff_eq]
    have z : ∀ q : Nat, ((a3 : Int) == (q : Int)) = decide (a3 = q) := fun q => by
      by_cases h : a3 = q
      · subst h; simp
      · rw [decide_eq_false h, beq_eq_false_iff_ne]; omega
    rw [show ((a3 : Int) == 0) = decide (a3 = 0) from z 0, show ((a3 : Int) == 1) = decide (a3 = 1) from z 1, show ((a3 : Int) == 2) = decide (a3 = 2) from z 2, show ((a3 : Int) == 3) = decide (a3 = 3) from z 3]
    repeat' split
    all_goals first | rfl | omega)
  go_enter Tryz.func96, Tryz.ntmps96
  go_wp2_with fail
  all_goals
    go_ret
    refine ⟨?_, by repeat (first | exact Below.refl _ _ | refine Below.setCell ?_ (by simp <;> omega) _ | refine Below.alloc ?_ (by simp <;> omega) _)⟩
    rw [E.out]
    simp_all

set_option maxHeartbeats 2000000 in
set_option maxRecDepth 100000 in
theorem hasName_any (k : Int) (nm : List UInt8) (vk : Int) (vt : Bool) (vi : Int) (vs : ByteArray) (s1 s2 s3 s4 : Option Addr) (a1 b1 a2 b2 a3 b3 a4 b4 : Nat) (w : World) (hn : nm.length ≤ 1099511627776) (hT : TabL w) :
    Calls Tryz.prog 95 #[.agg #[.int .i64 k, .string ⟨nm.toArray⟩, .int .i64 vk, .bool vt, .int .i64 vi, .string vs, .slice s1 a1 b1, .slice s2 a2 b2, .slice s3 a3 b3, .slice s4 a4 b4]] w fun e w' => e = .returned (.bool (nameOk k nm)) ∧ Below w.heap.size w w' := by
  obtain ⟨C, hC⟩ : ∃ C : Array Value, #[.int .i64 k, .string ⟨nm.toArray⟩, .int .i64 vk, .bool vt, .int .i64 vi, .string vs, .slice s1 a1 b1, .slice s2 a2 b2, .slice s3 a3 b3, .slice s4 a4 b4] = C := ⟨_, rfl⟩
  have B0 := Lib.hid ((Below.refl w.heap.size w).alloc (Nat.le_refl _) (.cells C 29))
  have A := Lib.hid (isPlain_any nm hn (w.alloc (.cells C 29)) (hT.below ((Below.refl w.heap.size w).alloc (Nat.le_refl _) (.cells C 29))))
  have U := Lib.hid (fun w => isUnary_any nm w)
  have S := Lib.hid (fun w => opStr_any nm w)
  rw [← hC] at B0 A
  have hemp : (⟨nm.toArray⟩ : ByteArray).toList = nm := by rw [ByteArray.toList_eq]
  have E := Lib.hid (show nameOk k nm = if k = 2 ∨ k = 3 ∨ k = 5 then plainB nm else if k = 6 then (decide (nm = [33]) || decide (nm = [45])) else if k = 7 then decide (0 < strB nm) else ((⟨nm.toArray⟩ : ByteArray).toList.isEmpty) by
    unfold nameOk
    rw [hemp]
    cases nm <;> simp)
  obtain ⟨p, hp⟩ : ∃ p, p = plainB nm := ⟨_, rfl⟩
  obtain ⟨u, hu⟩ : ∃ u, u = (decide (nm = [33]) || decide (nm = [45])) := ⟨_, rfl⟩
  obtain ⟨q, hq⟩ : ∃ q, q = strB nm := ⟨_, rfl⟩
  obtain ⟨r, hr⟩ : ∃ r, r = nameOk k nm := ⟨_, rfl⟩
  rw [← hp] at A E
  rw [← hu] at U E
  rw [← hq] at S E
  rw [← hr] at E ⊢
  obtain ⟨nx, hnx⟩ : ∃ nx : ByteArray, nx = ⟨nm.toArray⟩ := ⟨_, rfl⟩
  rw [← hnx] at A B0 U S E ⊢
  clear hp hu hq hr hnx hemp hC hn hT
  by_cases hA : k = 2 ∨ k = 3 ∨ k = 5
  · have E1 := Lib.hid (E.out.trans (if_pos hA))
    rcases hA with rfl | rfl | rfl
    all_goals
      clear E
      go_enter Tryz.func95, Tryz.ntmps95
      go_wp2_with fail
      go_fit A.out
      rintro e w1 ⟨rfl, hb⟩
      have HB := Lib.hid (B0.out.trans (hb.mono (by simp)))
      clear hb
      go_wp2_with fail
      go_ret
      exact ⟨by rw [E1.out]; rfl, HB.out⟩
  · have E2 := E.out.trans (if_neg hA)
    by_cases h6 : k = 6
    · subst h6
      have E1 := Lib.hid (E2.trans (if_pos rfl))
      clear E E2 hA
      go_enter Tryz.func95, Tryz.ntmps95
      go_wp2_with fail
      go_fit (U.out _)
      rintro e w1 ⟨rfl, rfl⟩
      go_wp2_with fail
      go_ret
      exact ⟨by rw [E1.out]; rfl, B0.out⟩
    · by_cases h7 : k = 7
      · subst h7
        have E1 := Lib.hid (E2.trans ((if_neg h6).trans (if_pos rfl)))
        clear E E2 hA h6
        go_enter Tryz.func95, Tryz.ntmps95
        go_wp2_with fail
        go_fit (S.out _)
        rintro e w1 ⟨rfl, rfl⟩
        by_cases h0 : 0 < q
        · have g : (0 : Int) < (q : Int) := by omega
          have E3 := Lib.hid (show r = true by rw [E1.out, decide_eq_true h0])
          clear h0
          go_wp2_with fail
          go_ret
          exact ⟨by rw [E3.out]; simp; omega, B0.out⟩
        · have g : ¬ (0 : Int) < (q : Int) := by omega
          have E3 := Lib.hid (show r = false by rw [E1.out, decide_eq_false h0])
          clear h0
          go_wp2_with fail
          go_ret
          exact ⟨by rw [E3.out]; simp; omega, B0.out⟩
      · have E1 := Lib.hid (E2.trans ((if_neg h6).trans (if_neg h7)))
        have k2 : (k == 2) = false := by rw [beq_eq_false_iff_ne]; omega
        have k3 : (k == 3) = false := by rw [beq_eq_false_iff_ne]; omega
        have k5 : (k == 5) = false := by rw [beq_eq_false_iff_ne]; omega
        have k6 : (k == 6) = false := by rw [beq_eq_false_iff_ne]; omega
        have k7 : (k == 7) = false := by rw [beq_eq_false_iff_ne]; omega
        clear E E2 hA h6 h7
        go_enter Tryz.func95, Tryz.ntmps95
        go_wp2_with fail
        go_ret
        exact ⟨by rw [E1.out]; simp, B0.out⟩

set_option maxHeartbeats 2000000 in
set_option maxRecDepth 100000 in
theorem hasKeys_any (k : Int) (nx : ByteArray) (vk : Int) (vt : Bool) (vi : Int) (vs : ByteArray) (s1 s2 s3 s4 : Option Addr) (a1 b1 a2 b2 a3 b3 b4 : Nat) (ks : List (List UInt8)) (hl : ks.length ≤ 9223372036854775000) (w : World) (hr : ReadsStr w s4 ks) :
    Calls Tryz.prog 97 #[.agg #[.int .i64 k, .string nx, .int .i64 vk, .bool vt, .int .i64 vi, .string vs, .slice s1 a1 b1, .slice s2 a2 b2, .slice s3 a3 b3, .slice s4 ks.length b4]] w fun e w' => e = .returned (.bool (keysOk k a3 ks)) ∧ Below w.heap.size w w' := by
  have B0 := Lib.hid ((Below.refl w.heap.size w).alloc (Nat.le_refl _) (.cells #[.int .i64 k, .string nx, .int .i64 vk, .bool vt, .int .i64 vi, .string vs, .slice s1 a1 b1, .slice s2 a2 b2, .slice s3 a3 b3, .slice s4 ks.length b4] 29))
  have X := Lib.hid (containsBadP_any s4 b4 ks hl _ (hr.below B0.out))
  obtain ⟨q, hq⟩ : ∃ q, q = ks.all keyB := ⟨_, rfl⟩
  have E : keysOk k a3 ks = if k = 10 then decide (ks.length = a3) && q else decide (ks.length = 0) := by unfold keysOk; rw [hq]
  rw [← hq] at X
  obtain ⟨r, hr'⟩ : ∃ r, r = keysOk k a3 ks := ⟨_, rfl⟩
  rw [← hr'] at E ⊢
  clear hq hr hr'
  by_cases hk : k = 10
  · subst hk
    rw [if_pos rfl] at E
    by_cases he : ks.length = a3
    · have E1 := Lib.hid (show r = q by rw [E, decide_eq_true he, Bool.true_and])
      have g : ((ks.length : Int) == (a3 : Int)) = true := by rw [beq_iff_eq]; omega
      clear E he
      go_enter Tryz.func97, Tryz.ntmps97
      go_wp2_with fail
      go_fit X.out
      rintro e w1 ⟨rfl, hb⟩
      have HB := Lib.hid (B0.out.trans (hb.mono (by simp)))
      clear hb
      go_wp2_with fail
      go_ret
      exact ⟨by rw [E1.out]; simp, HB.out⟩
    · have E1 := Lib.hid (show r = false by rw [E, decide_eq_false he, Bool.false_and])
      have g : ((ks.length : Int) == (a3 : Int)) = false := by rw [beq_eq_false_iff_ne]; omega
      clear E he
      go_enter Tryz.func97, Tryz.ntmps97
      go_wp2_with fail
      go_ret
      exact ⟨by rw [E1.out]; simp, B0.out⟩
  · rw [if_neg hk] at E
    have k10 : (k == 10) = false := by rw [beq_eq_false_iff_ne]; omega
    have g : ((ks.length : Int) == 0) = decide (ks.length = 0) := by
      by_cases h : ks.length = 0
      · rw [h]; rfl
      · rw [decide_eq_false h, beq_eq_false_iff_ne]; omega
    have E1 := Lib.hid E
    clear E hk
    go_enter Tryz.func97, Tryz.ntmps97
    go_wp2_with fail
    go_ret
    exact ⟨by rw [E1.out]; simp [List.length_eq_zero_iff], B0.out⟩

end Go.Proofs.YtjehhldboopocaaGreatDoor.Lx
namespace Go.Proofs.YtjehhldboopocaaGreatDoor.Lx
open Go.RowKit Go.Lib
set_option linter.unusedVariables false
/-- The strength of an expression's source. -/
def strP (k i : Int) (n : List UInt8) : Nat := if k = 8 then 1 else if k = 7 then strB n else if k = 6 ∨ (k = 1 ∧ i < 0) then 7 else 8
def strX (x : Xp) : Nat := strP x.kd x.vl.num x.nm
set_option maxRecDepth 100000 in
set_option maxHeartbeats 2000000 in
theorem strength_any (k : Int) (nm : List UInt8) (vk : Int) (vt : Bool) (vi : Int) (vs : ByteArray) (s1 s2 s3 s4 : Option Addr) (a1 b1 a2 b2 a3 b3 a4 b4 : Nat) (w : World) :
    Calls Tryz.prog 104 #[.agg #[.int .i64 k, .string ⟨nm.toArray⟩, .int .i64 vk, .bool vt, .int .i64 vi, .string vs, .slice s1 a1 b1, .slice s2 a2 b2, .slice s3 a3 b3, .slice s4 a4 b4]] w fun e w' => e = .returned (.int .i64 (strP k vi nm : Nat)) ∧ Below w.heap.size w w' := by
  have S := Lib.hid (fun w => opStr_any nm w)
  obtain ⟨q, hq⟩ : ∃ q, q = strB nm := ⟨_, rfl⟩
  have E : strP k vi nm = if k = 8 then 1 else if k = 7 then q else if k = 6 ∨ (k = 1 ∧ vi < 0) then 7 else 8 := by rw [hq]; rfl
  rw [← hq] at S
  obtain ⟨r, hr⟩ : ∃ r, r = strP k vi nm := ⟨_, rfl⟩
  rw [← hr] at E ⊢
  obtain ⟨nx, hnx⟩ : ∃ nx : ByteArray, nx = ⟨nm.toArray⟩ := ⟨_, rfl⟩
  rw [← hnx] at S ⊢
  have B0 := Lib.hid ((Below.refl w.heap.size w).alloc (Nat.le_refl _) (.cells #[.int .i64 k, .string nx, .int .i64 vk, .bool vt, .int .i64 vi, .string vs, .slice s1 a1 b1, .slice s2 a2 b2, .slice s3 a3 b3, .slice s4 a4 b4] 29))
  clear hq hr hnx
  by_cases h8 : k = 8
  · subst h8
    have E1 := Lib.hid (show r = 1 by rw [E, if_pos rfl])
    clear E
    go_enter Tryz.func104, Tryz.ntmps104
    go_wp2_with fail
    go_ret
    exact ⟨by rw [E1.out]; rfl, B0.out⟩
  · rw [if_neg h8] at E
    have k8 : (k == 8) = false := by rw [beq_eq_false_iff_ne]; exact h8
    by_cases h7 : k = 7
    · subst h7
      have E1 := Lib.hid (show r = q by rw [E, if_pos rfl])
      clear E h8
      go_enter Tryz.func104, Tryz.ntmps104
      go_wp2_with fail
      go_fit (S.out _)
      rintro e w1 ⟨rfl, rfl⟩
      go_wp2_with fail
      go_ret
      exact ⟨by rw [E1.out]; rfl, B0.out⟩
    · rw [if_neg h7] at E
      have k7 : (k == 7) = false := by rw [beq_eq_false_iff_ne]; exact h7
      by_cases h6 : k = 6
      · subst h6
        have E1 := Lib.hid (show r = 7 by rw [E, if_pos (.inl rfl)])
        clear E h8 h7
        go_enter Tryz.func104, Tryz.ntmps104
        go_wp2_with fail
        go_ret
        exact ⟨by rw [E1.out]; rfl, B0.out⟩
      · have k6 : (k == 6) = false := by rw [beq_eq_false_iff_ne]; exact h6
        by_cases h1 : k = 1
        · subst h1
          by_cases hi : vi < 0
          · have E1 := Lib.hid (show r = 7 by rw [E, if_pos (.inr ⟨rfl, hi⟩)])
            clear E h8 h7 h6
            go_enter Tryz.func104, Tryz.ntmps104
            go_wp2_with fail
            go_ret
            exact ⟨by rw [E1.out]; rfl, B0.out⟩
          · have E1 := Lib.hid (show r = 8 by rw [E, if_neg (fun e => by rcases e with e | e; exact h6 e; exact hi e.2)])
            clear E h8 h7 h6
            go_enter Tryz.func104, Tryz.ntmps104
            go_wp2_with fail
            go_ret
            exact ⟨by rw [E1.out]; rfl, B0.out⟩
        · have k1 : (k == 1) = false := by rw [beq_eq_false_iff_ne]; exact h1
          have E1 := Lib.hid (show r = 8 by rw [E, if_neg (fun e => by rcases e with e | e; exact h6 e; exact h1 e.1)])
          clear E h8 h7 h6 h1
          go_enter Tryz.func104, Tryz.ntmps104
          go_wp2_with fail
          go_ret
          exact ⟨by rw [E1.out]; rfl, B0.out⟩
end Go.Proofs.YtjehhldboopocaaGreatDoor.Lx
