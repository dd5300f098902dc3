/- A list or a map fits a type if each element fits. -/
import Derived.Test.YtabopneehhnhfabDoorTie
import Derived.Test.YtabopneehhnhfabDoorCards
import Derived.Test.YtabopneehhnhfabDoorTypTab
import Derived.Test.YtabopneehhnhfabDoorTypWalk
import Derived.Test.YtabopneehhnhfabDoorOpT
import Derived.Test.YtabopneehhnhfabDoorTypEl
import Derived.Test.YtabopneehhnhfabDoorValM
import Derived.ProofKit
import Derived.OpenShut
import Derived.LaidMore
import Derived.Stop.Joined
import Derived.SevenTiedAt
import Derived.SizedLaws
namespace Go.Proofs.YtabopneehhnhfabDoor.typingElements
open Go.ChangeShapes Go.WideShapes Go.ChangeAt Go.RowKit
set_option linter.unusedVariables false

theorem own : ownKnob Tryd.prog.godebug = none := by kernel_rfl
theorem laidOut : laidOutB Tryd.prog = true := by kernel_rfl

/-- What the round's region reads. -/
def SE (w : World) (k : Int) (t : Bool) (i : Int) (s : ByteArray) (sl kl : Value) (k2 : Int) (tl : Value) (b off eb eo : Nat) (v0 v1 v2 v3 v4 v5 e0 e1 : Value) (w' : World) : Prop :=
  w'.cell? ⟨w.heap.size, 4, none⟩ = some sl ∧ w'.cell? ⟨w.heap.size + 1, 1, none⟩ = some tl ∧ w'.cell? ⟨b, off, none⟩ = some v0 ∧ w'.cell? ⟨b, off + 1, none⟩ = some v1 ∧ w'.cell? ⟨b, off + 2, none⟩ = some v2 ∧ w'.cell? ⟨b, off + 3, none⟩ = some v3 ∧ w'.cell? ⟨b, off + 4, none⟩ = some v4 ∧ w'.cell? ⟨b, off + 5, none⟩ = some v5 ∧
    w'.cell? ⟨eb, eo, none⟩ = some e0 ∧ w'.cell? ⟨eb, eo + 1, none⟩ = some e1 ∧ S9 w k t i s sl kl k2 tl w'
theorem SE.below {w : World} {k : Int} {t : Bool} {i : Int} {s : ByteArray} {sl kl : Value} {k2 : Int} {tl : Value} {b off eb eo : Nat} {v0 v1 v2 v3 v4 v5 e0 e1 : Value} {w1 w2 : World} (h : SE w k t i s sl kl k2 tl b off eb eo v0 v1 v2 v3 v4 v5 e0 e1 w1) (hb : Below w1.heap.size w1 w2) : SE w k t i s sl kl k2 tl b off eb eo v0 v1 v2 v3 v4 v5 e0 e1 w2 := by
  obtain ⟨a0, a1, a2, a3, a4, a5, a6, a7, a8, a9, hs⟩ := h
  have z0 := World.block_lt_of_cell? w1 _ a0
  have z1 := World.block_lt_of_cell? w1 _ a1
  have z2 := World.block_lt_of_cell? w1 _ a2
  have z8 := World.block_lt_of_cell? w1 _ a8
  exact ⟨(hb.cell (p := ⟨_, 4, none⟩) z0).trans a0, (hb.cell (p := ⟨_, 1, none⟩) z1).trans a1, (hb.cell (p := ⟨b, off, none⟩) z2).trans a2, (hb.cell (p := ⟨b, off + 1, none⟩) z2).trans a3, (hb.cell (p := ⟨b, off + 2, none⟩) z2).trans a4, (hb.cell (p := ⟨b, off + 3, none⟩) z2).trans a5, (hb.cell (p := ⟨b, off + 4, none⟩) z2).trans a6, (hb.cell (p := ⟨b, off + 5, none⟩) z2).trans a7, (hb.cell (p := ⟨eb, eo, none⟩) z8).trans a8, (hb.cell (p := ⟨eb, eo + 1, none⟩) z8).trans a9, hs.below hb⟩

set_option maxHeartbeats 8000000 in
set_option maxRecDepth 100000 in
theorem walk (m' : Nat) (V : Value) (x : Vl) (mt : Nat) (TV : Value) (y : Ty) (w : World) (hT : TabT w) (hV' : IsV m' w V x) (hY : IsT mt w TV y) :
    Calls Tryd.prog 7 #[V, TV] w fun e w' => e = .returned (.bool true) ∧ Below w.heap.size w w' := by
  have hV := hV'.up
  generalize hm : m' + 1 = m at hV
  have HV := hV
  have HY := hY
  have HT := Lib.hid hT
  obtain ⟨k, t, i, s, l, ks, av, c, kv, kc, rfl, rfl, g0, g1, g2, g3, g4, g5, g6, g7, g8, g9, hs, hl⟩ := hV
  obtain ⟨k2, l2, av2, c2, rfl, rfl, g10, g11, hl2⟩ := hY
  have X := Lib.hid (fun w' (h : S9 w k t i s (.slice av l.length c) (.slice kv ks.length kc) k2 (.slice av2 l2.length c2) w') => refValidV_any m _ _ w' (HV.below h.2.2.2.2.2.2.2.2.2))
  have XT := Lib.hid (fun w' (h : S9 w k t i s (.slice av l.length c) (.slice kv ks.length kc) k2 (.slice av2 l2.length c2) w') => validT_any mt _ _ w' (HY.below h.2.2.2.2.2.2.2.2.2))
  have FT := Lib.hid (fun w' (h : S9 w k t i s (.slice av l.length c) (.slice kv ks.length kc) k2 (.slice av2 l2.length c2) w') => Fits_any m mt _ _ _ _ w' (HV.below h.2.2.2.2.2.2.2.2.2) (HY.below h.2.2.2.2.2.2.2.2.2) (HT.out.below h.2.2.2.2.2.2.2.2.2))
  have AW := Lib.hid (fun w' (h : Below w.heap.size w w') => awake_any w' (HT.out.below h))
  have hs0 : S9 w k t i s (.slice av l.length c) (.slice kv ks.length kc) k2 (.slice av2 l2.length c2) ((w.alloc (.cells #[.int .i64 k, .bool t, .int .i64 i, .string s, .slice av l.length c, .slice kv ks.length kc] 33)).alloc (.cells #[.int .i64 k2, .slice av2 l2.length c2] 24)) := by
    have VV := (V6_new w k t i s (.slice av l.length c) (.slice kv ks.length kc)).below (by simp) ((Below.refl _ _).alloc (Nat.le_refl _) (.cells #[.int .i64 k2, .slice av2 l2.length c2] 24))
    have TT := TwoAt.new (w.alloc (.cells #[.int .i64 k, .bool t, .int .i64 i, .string s, .slice av l.length c, .slice kv ks.length kc] 33)) 24 (.int .i64 k2) (.slice av2 l2.length c2)
    simp only [World.size_alloc] at TT
    exact ⟨VV.2.1, VV.2.2.1, VV.2.2.2.1, VV.2.2.2.2.1, VV.2.2.2.2.2.1, VV.2.2.2.2.2.2, TT.cell0, TT.cell1, by simp, (by repeat (first | exact Below.refl _ _ | refine Below.setCell ?_ (by simp <;> omega) _ | refine Below.alloc ?_ (by simp <;> omega) _))⟩
  by_cases h0 : errV 16 (Vl.mk k t i s l ks) = 0
  · obtain ⟨-, hz2⟩ := natI0 h0
    cases hq : okB (Ty.mk k2 l2)
    · obtain ⟨-, hy2⟩ := natI1 (n := chkT 16 (Ty.mk k2 l2)) (by simpa [okB] using hq)
      generalize errV 16 (Vl.mk k t i s l ks) = er at *
      generalize chkT 16 (Ty.mk k2 l2) = ct at *
      clear FT
      go_enter Tryd.func7, Tryd.ntmps7
      go_wp2_with fail
      go_fit (X.out _ hs0)
      rintro e w1 ⟨rfl, hb1⟩
      have hs1 := hs0.below hb1
      obtain ⟨a0, a1, a2, a3, a4, a5, a6, a7, _, _⟩ := id hs1
      clear hb1 hs0
      go_wp2_with fail
      go_fit (XT.out _ hs1)
      rintro e w2 ⟨rfl, hb2⟩
      have hs2 := hs1.below hb2
      clear a0 a1 a2 a3 a4 a5 a6 a7 hb2
      go_wp2_with fail
      go_fit (AW.out _ hs2.2.2.2.2.2.2.2.2.2)
      rintro e w3 ⟨rfl, hb3⟩
      go_wp2_with fail
      go_ret
      exact ⟨rfl, hs2.2.2.2.2.2.2.2.2.2.trans (hb3.mono hs2.2.2.2.2.2.2.2.2.2.size)⟩
    · obtain ⟨-, hy2⟩ := natI0 (n := chkT 16 (Ty.mk k2 l2)) (by simpa [okB] using hq)
      by_cases hk : k = 4 ∨ k = 5
      · rcases hk with rfl | rfl
        · -- 4
          have AW9 := Lib.hid (fun w' (h : S9 w 4 t i s (.slice av l.length c) (.slice kv ks.length kc) k2 (.slice av2 l2.length c2) w') => awake_any w' (HT.out.below h.2.2.2.2.2.2.2.2.2))
          by_cases hn : k2 = 5
          · subst hn
            subst hm
            obtain ⟨eT, rfl⟩ := one_elem hq (by omega)
            obtain ⟨n, rfl⟩ : ∃ n, mt = n + 1 := by
              cases mt with
              | zero => exact absurd (show [eT] = [] from hl2) (by simp)
              | succ n => exact ⟨n, rfl⟩
            obtain ⟨eb, eo, ke, le, ea, ec, ee, rfl, ez, q6, q7, g12, g13, he⟩ := hl2 0 (by simp)
            have ee : eT = .mk ke le := by simpa using ee
            subst ee
            have EF := elems_fit m' h0 (by omega) hq rfl
            rw [EF] at FT
            obtain ⟨F, hF⟩ : ∃ F : Vl → Bool, F = fun z => fitV m' z (.mk ke le) := ⟨_, rfl⟩
            have HE : IsT n w (.agg #[.int .i64 ke, .slice ea le.length ec]) (.mk ke le) := ⟨ke, le, ea, ec, rfl, rfl, g12, g13, he⟩
            have FE := Lib.hid (fun z V' w' (hz : IsV m' w V' z) (h : Below w.heap.size w w') => show Calls Tryd.prog 17 #[V', .agg #[.int .i64 ke, .slice ea le.length ec]] w' fun e w'' => e = .returned (.bool (F z)) ∧ Below w'.heap.size w' w'' by
              rw [hF]; exact Fits_any m' n V' _ z _ w' (hz.below h) (HE.below h) (HT.out.below h))
            rw [← hF] at FT
            have HL := Lib.hid hl
            have hlen : l.length ≤ 9223372036854775000 := by omega
            generalize errV 16 (Vl.mk 4 t i s l ks) = er at *
            generalize chkT 16 (Ty.mk 5 [.mk ke le]) = ct at *
            clear h0 hq HV HY hV' hl hl2 hs EF hF he HE
            go_enter Tryd.func7, Tryd.ntmps7
            go_wp2_with fail
            go_fit (X.out _ hs0)
            rintro e w1 ⟨rfl, hb1⟩
            have hs1 := hs0.below hb1
            obtain ⟨a0, a1, a2, a3, a4, a5, a6, a7, _, _⟩ := id hs1
            clear hb1 hs0
            go_wp2_with fail
            go_fit (XT.out _ hs1)
            rintro e w2 ⟨rfl, hb2⟩
            have hs2 := hs1.below hb2
            clear a0 a1 a2 a3 a4 a5 a6 a7 hb2 hs1
            obtain ⟨a0, a1, a2, a3, a4, a5, a6, a7, _, _⟩ := id hs2
            go_wp2_with fail
            clear a0 a1 a2 a3 a4 a5 a6 a7 X XT
            go_loopw [6, 7] (fun s6 s7 wr => ∃ (j : Nat) (r : Bool), j ≤ l.length ∧ s7 = .int .i64 (j : Int) ∧ s6 = .bool r ∧ Hid (r = (l.take j).all F) ∧ Hid (S9 w 4 t i s (.slice av l.length c) (.slice kv ks.length kc) 5 (.slice (some ⟨eb, eo, none⟩) 1 c2) wr)) (fun _ s7 _ => l.length - (RowKit.intOf s7).toNat)
            case atStart => exact ⟨0, true, by omega, rfl, rfl, Lib.hid rfl, Lib.hid hs2⟩
            case round =>
              obtain ⟨j, r, hj, rfl, rfl, HR, HS⟩ := hrel
              obtain ⟨a0, a1, a2, a3, a4, a5, a6, a7, _, _⟩ := id HS.out
              have HB := Lib.hid HS.out.2.2.2.2.2.2.2.2.2
              clear hs2
              by_cases hlt : j < l.length
              · have hjI : (j : Int) < (l.length : Int) := by omega
                obtain ⟨b, off, k', t', i', s', l', ks', a2', c2', kv', kc', e0, rfl, h2', q0, q1, q2, q3, q4, q5, r0, r1, r2, r3, r4, r5, r6, r7, r8, r9, hs', hl'⟩ := HL.out j hlt
                have p0 := (HB.out.cell (p := ⟨b, _, none⟩) h2').trans q0
                have p1 := (HB.out.cell (p := ⟨b, _, none⟩) h2').trans q1
                have p2 := (HB.out.cell (p := ⟨b, _, none⟩) h2').trans q2
                have p3 := (HB.out.cell (p := ⟨b, _, none⟩) h2').trans q3
                have p4 := (HB.out.cell (p := ⟨b, _, none⟩) h2').trans q4
                have p5 := (HB.out.cell (p := ⟨b, _, none⟩) h2').trans q5
                have p6 := (HB.out.cell (p := ⟨eb, _, none⟩) ez).trans q6
                have p7 := (HB.out.cell (p := ⟨eb, _, none⟩) ez).trans q7
                simp only [Nat.zero_mul, Nat.add_zero] at p6 p7
                have HZ := Lib.hid (show IsV m' w (.agg #[.int .i64 k', .bool t', .int .i64 i', .string s', .slice a2' l'.length c2', .slice kv' ks'.length kc']) (.mk k' t' i' s' l' ks') from ⟨k', t', i', s', l', ks', a2', c2', kv', kc', rfl, rfl, r0, r1, r2, r3, r4, r5, r6, r7, r8, r9, hs', hl'⟩)
                have hnext : (l.take (j + 1)).all F = ((l.take j).all F && F (.mk k' t' i' s' l' ks')) := by
                  obtain ⟨_, e1⟩ := List.getElem?_eq_some_iff.1 e0
                  rw [List.take_succ_eq_append_getElem hlt, e1, List.all_append]
                  simp
                rw [← HR.out] at hnext
                have HN := Lib.hid hnext
                clear hnext q0 q1 q2 q3 q4 q5 q6 q7 r0 r1 r2 r3 r4 r5 r6 r7 r8 r9 hs' hl' e0
                cases r
                · rw [Bool.false_and] at HN
                  go_wp2_with fail
                  clear a0 a1 a2 a3 a4 a5 a6 a7 p0 p1 p2 p3 p4 p5 p6 p7
                  go_quiet (fail)
                  all_goals
                    go_wp2_with fail
                    exact ⟨⟨j + 1, false, by omega, by go_num, rfl, Lib.hid HN.out.symm, Lib.hid (HS.out.below (below_drewN (Below.refl _ _) _))⟩, by simp [RowKit.intOf]; omega⟩
                · rw [Bool.true_and] at HN
                  have hse : SE w 4 t i s (.slice (some ⟨b, off, none⟩) l.length c) (.slice kv ks.length kc) 5 (.slice (some ⟨eb, eo, none⟩) 1 c2) b (off + j * 6) eb eo (.int .i64 k') (.bool t') (.int .i64 i') (.string s') (.slice a2' l'.length c2') (.slice kv' ks'.length kc') (.int .i64 ke) (.slice ea le.length ec) wr.drew := SE.below ⟨a4, a7, p0, p1, p2, p3, p4, p5, p6, p7, HS.out⟩ (Below.refl _ _).drew
                  go_wp2_with fail
                  clear a0 a1 a2 a3 a4 a5 a6 a7 p0 p1 p2 p3 p4 p5 p6 p7
                  go_region_held3 (fun w' => w'.cell? ⟨w.heap.size, 4, none⟩ = some (.slice (some ⟨b, off, none⟩) l.length c) ∧ w'.cell? ⟨w.heap.size + 1, 1, none⟩ = some (.slice (some ⟨eb, eo, none⟩) 1 c2) ∧ w'.cell? ⟨b, off + j * 6, none⟩ = some (.int .i64 k') ∧ w'.cell? ⟨b, off + j * 6 + 1, none⟩ = some (.bool t') ∧ w'.cell? ⟨b, off + j * 6 + 2, none⟩ = some (.int .i64 i') ∧ w'.cell? ⟨b, off + j * 6 + 3, none⟩ = some (.string s') ∧ w'.cell? ⟨b, off + j * 6 + 4, none⟩ = some (.slice a2' l'.length c2') ∧ w'.cell? ⟨b, off + j * 6 + 5, none⟩ = some (.slice kv' ks'.length kc') ∧ w'.cell? ⟨eb, eo, none⟩ = some (.int .i64 ke) ∧ w'.cell? ⟨eb, eo + 1, none⟩ = some (.slice ea le.length ec) ∧ S9 w 4 t i s (.slice (some ⟨b, off, none⟩) l.length c) (.slice kv ks.length kc) 5 (.slice (some ⟨eb, eo, none⟩) 1 c2) w') (first | exact hse | exact SE.below (by assumption) (by assumption)) (first
                    | (go_at_call 17; go_fit (FE.out _ _ _ HZ.out HB.out.drew); rintro e w3 ⟨rfl, hb3⟩))
                  all_goals
                    have hfin : SE w 4 t i s (.slice (some ⟨b, off, none⟩) l.length c) (.slice kv ks.length kc) 5 (.slice (some ⟨eb, eo, none⟩) 1 c2) b (off + j * 6) eb eo (.int .i64 k') (.bool t') (.int .i64 i') (.string s') (.slice a2' l'.length c2') (.slice kv' ks'.length kc') (.int .i64 ke) (.slice ea le.length ec) w3 := by assumption
                    have HS1 := Lib.hid hfin.2.2.2.2.2.2.2.2.2.2
                    go_wp2_with fail
                    exact ⟨⟨j + 1, _, by omega, by go_num, rfl, Lib.hid HN.out.symm, HS1⟩, by simp [RowKit.intOf]; omega⟩
              · have hje : j = l.length := by omega
                subst hje
                have hjI : ¬ (l.length : Int) < (l.length : Int) := by omega
                have hr := HR.out
                rw [List.take_length] at hr
                subst hr
                have e1 : ((l.all F) == (l.all F)) = true := beq_self_eq_true _
                clear FE HL HR
                generalize l.all F = r at *
                have hs2 := HS.out
                go_wp2_with fail
                clear a0 a1 a2 a3 a4 a5 a6 a7
                go_fit (FT.out _ hs2)
                rintro e w3 ⟨rfl, hb3⟩
                have hs3 := hs2.below hb3
                clear hb3
                go_wp2_with fail
                go_fit (AW9.out _ hs3)
                rintro e w4 ⟨rfl, hb4⟩
                have hfin := hs3.below hb4
                go_wp2_with fail
                go_ret
                exact ⟨rfl, hfin.2.2.2.2.2.2.2.2.2⟩
          · have hnb : (k2 != 5) = true := by simpa using hn
            have OF := other_fit m' h0 (by omega) hq (show k2 ≠ 4 + 1 by omega)
            rw [hm] at OF
            rw [OF] at FT
            have e1 : ((k2 == 0) == (k2 == 0)) = true := beq_self_eq_true _
            generalize errV 16 (Vl.mk 4 t i s l ks) = er at *
            generalize chkT 16 (Ty.mk k2 l2) = ct at *
            clear OF h0 hq hn HV HY hV' hl hl2 hs
            go_enter Tryd.func7, Tryd.ntmps7
            go_wp2_with fail
            go_fit (X.out _ hs0)
            rintro e w1 ⟨rfl, hb1⟩
            have hs1 := hs0.below hb1
            obtain ⟨a0, a1, a2, a3, a4, a5, a6, a7, _, _⟩ := id hs1
            clear hb1 hs0
            go_wp2_with fail
            go_fit (XT.out _ hs1)
            rintro e w2 ⟨rfl, hb2⟩
            have hs2 := hs1.below hb2
            clear a0 a1 a2 a3 a4 a5 a6 a7 hb2 hs1
            obtain ⟨a0, a1, a2, a3, a4, a5, a6, a7, _, _⟩ := id hs2
            go_wp2_with fail
            clear a0 a1 a2 a3 a4 a5 a6 a7
            go_region_held3 (fun w' => w'.cell? ⟨w.heap.size, 0, none⟩ = some (.int .i64 4) ∧ w'.cell? ⟨w.heap.size, 1, none⟩ = some (.bool t) ∧ w'.cell? ⟨w.heap.size, 2, none⟩ = some (.int .i64 i) ∧ w'.cell? ⟨w.heap.size, 3, none⟩ = some (.string s) ∧ w'.cell? ⟨w.heap.size, 4, none⟩ = some (.slice av l.length c) ∧ w'.cell? ⟨w.heap.size, 5, none⟩ = some (.slice kv ks.length kc) ∧ w'.cell? ⟨w.heap.size + 1, 0, none⟩ = some (.int .i64 k2) ∧ w'.cell? ⟨w.heap.size + 1, 1, none⟩ = some (.slice av2 l2.length c2) ∧ (w.heap.size + 1 < w'.heap.size ∧ Below w.heap.size w w')) (first | exact S9.drew hs2 | exact S9.below (by assumption) (by assumption)) (first
              | (go_at_call 17; go_fit (FT.out _ (by assumption)); rintro e w3 ⟨rfl, hb3⟩)
              | (go_at_call 13; go_fit (AW9.out _ (by assumption)); rintro e w4 ⟨rfl, hb4⟩))
            all_goals
              have hfin : S9 w 4 t i s (.slice av l.length c) (.slice kv ks.length kc) k2 (.slice av2 l2.length c2) w4 := by assumption
              go_wp2_with fail
              go_ret
              exact ⟨rfl, hfin.2.2.2.2.2.2.2.2.2⟩
        · -- 5
          have AW9 := Lib.hid (fun w' (h : S9 w 5 t i s (.slice av l.length c) (.slice kv ks.length kc) k2 (.slice av2 l2.length c2) w') => awake_any w' (HT.out.below h.2.2.2.2.2.2.2.2.2))
          by_cases hn : k2 = 6
          · subst hn
            subst hm
            obtain ⟨eT, rfl⟩ := one_elem hq (by omega)
            obtain ⟨n, rfl⟩ : ∃ n, mt = n + 1 := by
              cases mt with
              | zero => exact absurd (show [eT] = [] from hl2) (by simp)
              | succ n => exact ⟨n, rfl⟩
            obtain ⟨eb, eo, ke, le, ea, ec, ee, rfl, ez, q6, q7, g12, g13, he⟩ := hl2 0 (by simp)
            have ee : eT = .mk ke le := by simpa using ee
            subst ee
            have EF := elems_fit m' h0 (by omega) hq rfl
            rw [EF] at FT
            obtain ⟨F, hF⟩ : ∃ F : Vl → Bool, F = fun z => fitV m' z (.mk ke le) := ⟨_, rfl⟩
            have HE : IsT n w (.agg #[.int .i64 ke, .slice ea le.length ec]) (.mk ke le) := ⟨ke, le, ea, ec, rfl, rfl, g12, g13, he⟩
            have FE := Lib.hid (fun z V' w' (hz : IsV m' w V' z) (h : Below w.heap.size w w') => show Calls Tryd.prog 17 #[V', .agg #[.int .i64 ke, .slice ea le.length ec]] w' fun e w'' => e = .returned (.bool (F z)) ∧ Below w'.heap.size w' w'' by
              rw [hF]; exact Fits_any m' n V' _ z _ w' (hz.below h) (HE.below h) (HT.out.below h))
            rw [← hF] at FT
            have HL := Lib.hid hl
            have hlen : l.length ≤ 9223372036854775000 := by omega
            generalize errV 16 (Vl.mk 5 t i s l ks) = er at *
            generalize chkT 16 (Ty.mk 6 [.mk ke le]) = ct at *
            clear h0 hq HV HY hV' hl hl2 hs EF hF he HE
            go_enter Tryd.func7, Tryd.ntmps7
            go_wp2_with fail
            go_fit (X.out _ hs0)
            rintro e w1 ⟨rfl, hb1⟩
            have hs1 := hs0.below hb1
            obtain ⟨a0, a1, a2, a3, a4, a5, a6, a7, _, _⟩ := id hs1
            clear hb1 hs0
            go_wp2_with fail
            go_fit (XT.out _ hs1)
            rintro e w2 ⟨rfl, hb2⟩
            have hs2 := hs1.below hb2
            clear a0 a1 a2 a3 a4 a5 a6 a7 hb2 hs1
            obtain ⟨a0, a1, a2, a3, a4, a5, a6, a7, _, _⟩ := id hs2
            go_wp2_with fail
            clear a0 a1 a2 a3 a4 a5 a6 a7 X XT
            go_loopw [6, 7] (fun s6 s7 wr => ∃ (j : Nat) (r : Bool), j ≤ l.length ∧ s7 = .int .i64 (j : Int) ∧ s6 = .bool r ∧ Hid (r = (l.take j).all F) ∧ Hid (S9 w 5 t i s (.slice av l.length c) (.slice kv ks.length kc) 6 (.slice (some ⟨eb, eo, none⟩) 1 c2) wr)) (fun _ s7 _ => l.length - (RowKit.intOf s7).toNat)
            case atStart => exact ⟨0, true, by omega, rfl, rfl, Lib.hid rfl, Lib.hid hs2⟩
            case round =>
              obtain ⟨j, r, hj, rfl, rfl, HR, HS⟩ := hrel
              obtain ⟨a0, a1, a2, a3, a4, a5, a6, a7, _, _⟩ := id HS.out
              have HB := Lib.hid HS.out.2.2.2.2.2.2.2.2.2
              clear hs2
              by_cases hlt : j < l.length
              · have hjI : (j : Int) < (l.length : Int) := by omega
                obtain ⟨b, off, k', t', i', s', l', ks', a2', c2', kv', kc', e0, rfl, h2', q0, q1, q2, q3, q4, q5, r0, r1, r2, r3, r4, r5, r6, r7, r8, r9, hs', hl'⟩ := HL.out j hlt
                have p0 := (HB.out.cell (p := ⟨b, _, none⟩) h2').trans q0
                have p1 := (HB.out.cell (p := ⟨b, _, none⟩) h2').trans q1
                have p2 := (HB.out.cell (p := ⟨b, _, none⟩) h2').trans q2
                have p3 := (HB.out.cell (p := ⟨b, _, none⟩) h2').trans q3
                have p4 := (HB.out.cell (p := ⟨b, _, none⟩) h2').trans q4
                have p5 := (HB.out.cell (p := ⟨b, _, none⟩) h2').trans q5
                have p6 := (HB.out.cell (p := ⟨eb, _, none⟩) ez).trans q6
                have p7 := (HB.out.cell (p := ⟨eb, _, none⟩) ez).trans q7
                simp only [Nat.zero_mul, Nat.add_zero] at p6 p7
                have HZ := Lib.hid (show IsV m' w (.agg #[.int .i64 k', .bool t', .int .i64 i', .string s', .slice a2' l'.length c2', .slice kv' ks'.length kc']) (.mk k' t' i' s' l' ks') from ⟨k', t', i', s', l', ks', a2', c2', kv', kc', rfl, rfl, r0, r1, r2, r3, r4, r5, r6, r7, r8, r9, hs', hl'⟩)
                have hnext : (l.take (j + 1)).all F = ((l.take j).all F && F (.mk k' t' i' s' l' ks')) := by
                  obtain ⟨_, e1⟩ := List.getElem?_eq_some_iff.1 e0
                  rw [List.take_succ_eq_append_getElem hlt, e1, List.all_append]
                  simp
                rw [← HR.out] at hnext
                have HN := Lib.hid hnext
                clear hnext q0 q1 q2 q3 q4 q5 q6 q7 r0 r1 r2 r3 r4 r5 r6 r7 r8 r9 hs' hl' e0
                cases r
                · rw [Bool.false_and] at HN
                  go_wp2_with fail
                  clear a0 a1 a2 a3 a4 a5 a6 a7 p0 p1 p2 p3 p4 p5 p6 p7
                  go_quiet (fail)
                  all_goals
                    go_wp2_with fail
                    exact ⟨⟨j + 1, false, by omega, by go_num, rfl, Lib.hid HN.out.symm, Lib.hid (HS.out.below (below_drewN (Below.refl _ _) _))⟩, by simp [RowKit.intOf]; omega⟩
                · rw [Bool.true_and] at HN
                  have hse : SE w 5 t i s (.slice (some ⟨b, off, none⟩) l.length c) (.slice kv ks.length kc) 6 (.slice (some ⟨eb, eo, none⟩) 1 c2) b (off + j * 6) eb eo (.int .i64 k') (.bool t') (.int .i64 i') (.string s') (.slice a2' l'.length c2') (.slice kv' ks'.length kc') (.int .i64 ke) (.slice ea le.length ec) wr.drew := SE.below ⟨a4, a7, p0, p1, p2, p3, p4, p5, p6, p7, HS.out⟩ (Below.refl _ _).drew
                  go_wp2_with fail
                  clear a0 a1 a2 a3 a4 a5 a6 a7 p0 p1 p2 p3 p4 p5 p6 p7
                  go_region_held3 (fun w' => w'.cell? ⟨w.heap.size, 4, none⟩ = some (.slice (some ⟨b, off, none⟩) l.length c) ∧ w'.cell? ⟨w.heap.size + 1, 1, none⟩ = some (.slice (some ⟨eb, eo, none⟩) 1 c2) ∧ w'.cell? ⟨b, off + j * 6, none⟩ = some (.int .i64 k') ∧ w'.cell? ⟨b, off + j * 6 + 1, none⟩ = some (.bool t') ∧ w'.cell? ⟨b, off + j * 6 + 2, none⟩ = some (.int .i64 i') ∧ w'.cell? ⟨b, off + j * 6 + 3, none⟩ = some (.string s') ∧ w'.cell? ⟨b, off + j * 6 + 4, none⟩ = some (.slice a2' l'.length c2') ∧ w'.cell? ⟨b, off + j * 6 + 5, none⟩ = some (.slice kv' ks'.length kc') ∧ w'.cell? ⟨eb, eo, none⟩ = some (.int .i64 ke) ∧ w'.cell? ⟨eb, eo + 1, none⟩ = some (.slice ea le.length ec) ∧ S9 w 5 t i s (.slice (some ⟨b, off, none⟩) l.length c) (.slice kv ks.length kc) 6 (.slice (some ⟨eb, eo, none⟩) 1 c2) w') (first | exact hse | exact SE.below (by assumption) (by assumption)) (first
                    | (go_at_call 17; go_fit (FE.out _ _ _ HZ.out HB.out.drew); rintro e w3 ⟨rfl, hb3⟩))
                  all_goals
                    have hfin : SE w 5 t i s (.slice (some ⟨b, off, none⟩) l.length c) (.slice kv ks.length kc) 6 (.slice (some ⟨eb, eo, none⟩) 1 c2) b (off + j * 6) eb eo (.int .i64 k') (.bool t') (.int .i64 i') (.string s') (.slice a2' l'.length c2') (.slice kv' ks'.length kc') (.int .i64 ke) (.slice ea le.length ec) w3 := by assumption
                    have HS1 := Lib.hid hfin.2.2.2.2.2.2.2.2.2.2
                    go_wp2_with fail
                    exact ⟨⟨j + 1, _, by omega, by go_num, rfl, Lib.hid HN.out.symm, HS1⟩, by simp [RowKit.intOf]; omega⟩
              · have hje : j = l.length := by omega
                subst hje
                have hjI : ¬ (l.length : Int) < (l.length : Int) := by omega
                have hr := HR.out
                rw [List.take_length] at hr
                subst hr
                have e1 : ((l.all F) == (l.all F)) = true := beq_self_eq_true _
                clear FE HL HR
                generalize l.all F = r at *
                have hs2 := HS.out
                go_wp2_with fail
                clear a0 a1 a2 a3 a4 a5 a6 a7
                go_fit (FT.out _ hs2)
                rintro e w3 ⟨rfl, hb3⟩
                have hs3 := hs2.below hb3
                clear hb3
                go_wp2_with fail
                go_fit (AW9.out _ hs3)
                rintro e w4 ⟨rfl, hb4⟩
                have hfin := hs3.below hb4
                go_wp2_with fail
                go_ret
                exact ⟨rfl, hfin.2.2.2.2.2.2.2.2.2⟩
          · have hnb : (k2 != 6) = true := by simpa using hn
            have OF := other_fit m' h0 (by omega) hq (show k2 ≠ 5 + 1 by omega)
            rw [hm] at OF
            rw [OF] at FT
            have e1 : ((k2 == 0) == (k2 == 0)) = true := beq_self_eq_true _
            generalize errV 16 (Vl.mk 5 t i s l ks) = er at *
            generalize chkT 16 (Ty.mk k2 l2) = ct at *
            clear OF h0 hq hn HV HY hV' hl hl2 hs
            go_enter Tryd.func7, Tryd.ntmps7
            go_wp2_with fail
            go_fit (X.out _ hs0)
            rintro e w1 ⟨rfl, hb1⟩
            have hs1 := hs0.below hb1
            obtain ⟨a0, a1, a2, a3, a4, a5, a6, a7, _, _⟩ := id hs1
            clear hb1 hs0
            go_wp2_with fail
            go_fit (XT.out _ hs1)
            rintro e w2 ⟨rfl, hb2⟩
            have hs2 := hs1.below hb2
            clear a0 a1 a2 a3 a4 a5 a6 a7 hb2 hs1
            obtain ⟨a0, a1, a2, a3, a4, a5, a6, a7, _, _⟩ := id hs2
            go_wp2_with fail
            clear a0 a1 a2 a3 a4 a5 a6 a7
            go_region_held3 (fun w' => w'.cell? ⟨w.heap.size, 0, none⟩ = some (.int .i64 5) ∧ w'.cell? ⟨w.heap.size, 1, none⟩ = some (.bool t) ∧ w'.cell? ⟨w.heap.size, 2, none⟩ = some (.int .i64 i) ∧ w'.cell? ⟨w.heap.size, 3, none⟩ = some (.string s) ∧ w'.cell? ⟨w.heap.size, 4, none⟩ = some (.slice av l.length c) ∧ w'.cell? ⟨w.heap.size, 5, none⟩ = some (.slice kv ks.length kc) ∧ w'.cell? ⟨w.heap.size + 1, 0, none⟩ = some (.int .i64 k2) ∧ w'.cell? ⟨w.heap.size + 1, 1, none⟩ = some (.slice av2 l2.length c2) ∧ (w.heap.size + 1 < w'.heap.size ∧ Below w.heap.size w w')) (first | exact S9.drew hs2 | exact S9.below (by assumption) (by assumption)) (first
              | (go_at_call 17; go_fit (FT.out _ (by assumption)); rintro e w3 ⟨rfl, hb3⟩)
              | (go_at_call 13; go_fit (AW9.out _ (by assumption)); rintro e w4 ⟨rfl, hb4⟩))
            all_goals
              have hfin : S9 w 5 t i s (.slice av l.length c) (.slice kv ks.length kc) k2 (.slice av2 l2.length c2) w4 := by assumption
              go_wp2_with fail
              go_ret
              exact ⟨rfl, hfin.2.2.2.2.2.2.2.2.2⟩
      · generalize errV 16 (Vl.mk k t i s l ks) = er at *
        generalize chkT 16 (Ty.mk k2 l2) = ct at *
        have hk4 : (k != 4) = true := by simpa using fun h => hk (.inl h)
        have hk5 : (k != 5) = true := by simpa using fun h => hk (.inr h)
        clear hk
        clear FT
        go_enter Tryd.func7, Tryd.ntmps7
        go_wp2_with fail
        go_fit (X.out _ hs0)
        rintro e w1 ⟨rfl, hb1⟩
        have hs1 := hs0.below hb1
        obtain ⟨a0, a1, a2, a3, a4, a5, a6, a7, _, _⟩ := id hs1
        clear hb1 hs0
        go_wp2_with fail
        go_fit (XT.out _ hs1)
        rintro e w2 ⟨rfl, hb2⟩
        have hs2 := hs1.below hb2
        clear a0 a1 a2 a3 a4 a5 a6 a7 hb2
        obtain ⟨a0, a1, a2, a3, a4, a5, a6, a7, _, _⟩ := id hs2
        go_wp2_with fail
        go_fit (AW.out _ hs2.2.2.2.2.2.2.2.2.2)
        rintro e w3 ⟨rfl, hb3⟩
        go_wp2_with fail
        go_ret
        exact ⟨rfl, hs2.2.2.2.2.2.2.2.2.2.trans (hb3.mono hs2.2.2.2.2.2.2.2.2.2.size)⟩
  · obtain ⟨-, hz2⟩ := natI1 h0
    generalize errV 16 (Vl.mk k t i s l ks) = er at *
    clear FT XT
    go_enter Tryd.func7, Tryd.ntmps7
    go_wp2_with fail
    go_fit (X.out _ hs0)
    rintro e w1 ⟨rfl, hb1⟩
    have hs1 := hs0.below hb1
    clear hs0 hb1
    go_wp2_with fail
    go_fit (AW.out _ hs1.2.2.2.2.2.2.2.2.2)
    rintro e w3 ⟨rfl, hb3⟩
    go_wp2_with fail
    go_ret
    exact ⟨rfl, hs1.2.2.2.2.2.2.2.2.2.trans (hb3.mono hs1.2.2.2.2.2.2.2.2.2.size)⟩

set_option maxRecDepth 100000 in
theorem lifted (os : Os) (started : os.Started) (H : Type) (enc : TypeId × Value → H) :
    ReturnsInHanded {} Tryd.checked os 7 .any (fun w args => (Rows.typingElementsSpec.pre enc Tryd.prog Tryd.f7 Rows.typingElementsRow.domain false w args ∧ laidMetH Tryd.prog laid8 w) ∧ sizedMet enc Tryd.prog Tryd.f7 (OpenSpec.ofChange Rows.typingElementsSpec) false w args) (Rows.typingElementsSpec.post enc Tryd.prog Tryd.f7 false true false false) := by
  refine returnsInHanded_of_change_and (C := Tryd.checked) (X := fun w _ => laidMetH Tryd.prog laid8 w) (fun _ _ _ hh h => h.of_heap hh) own started (by kernel_rfl) Tryd.func7
    (ChangeSpec.witness_shaped (enc := enc) (C := Tryd.checked) (os := os) (X := fun w _ => laidMetH Tryd.prog laid8 w) false (World.laidAll Tryd.prog os laid8) #[.agg #[.int .i64 0, .bool false, .int .i64 0, .string ⟨#[]⟩, .slice none 0 0, .slice none 0 0], .agg #[.int .i64 0, .slice none 0 0]] 8 (World.laidAll_os _ _ _) (World.shaped_of_ZipB (by kernel_rfl) (by kernel_rfl)) (by kernel_rfl) (by kernel_rfl) (by kernel_rfl) (lay8_met os _)) ?_
  intro W base args ds gs before hval0 hW hcnd hsz hL _
  have hval : ∀ (j : Nat) t v, Tryd.f7.params[j]? = some t → args[j]? = some v → Value.okWide Tryd.prog W .any base t v := hval0
  have hW' := hW
  obtain ⟨p, q, hA0, hV, rfl, hfz, hnd⟩ := hW
  have hA : DataW.TrodAll enc Tryd.prog W 0 (fun _ => true) true Tryd.f7.params.toList args.toList ds p := hA0
  rw [Tryd.params7] at hA hval hsz
  obtain ⟨v0, vs0, d0, ds0, p0, q0, hargs, rfl, rfl, h0, r0⟩ := trodAll_cons hA
  obtain ⟨v1, vs1, d1, ds1, p1, q1, rfl, rfl, rfl, h1, r1⟩ := trodAll_cons r0
  obtain ⟨rfl, rfl, rfl⟩ := trodAll_nil r1
  obtain rfl : args = #[v0, v1] := by cases args; simp_all
  obtain ⟨rfl, rfl⟩ := trodVars_none hV
  have k0 := h0
  have lt0 : ∀ x ∈ p0, x.block < W.heap.size := by obtain ⟨m, hm⟩ := k0; exact DataW.trod_lt m _ _ _ hm
  have hw0 : (d0.weights Tryd.prog 33).all (· ≤ reachBytes) = true := List.all_eq_true.2 (fun n hn => List.all_eq_true.1 hsz n (DataW.weights_mem_each (j := 0) (t := 33) rfl rfl n hn))
  obtain ⟨m0, y0, hr0⟩ := open_value (hval 0 33 v0 rfl rfl) h0 hw0
  have k1 := h1
  have lt1 : ∀ x ∈ p1, x.block < W.heap.size := by obtain ⟨m, hm⟩ := k1; exact DataW.trod_lt m _ _ _ hm
  obtain ⟨m1, y1, hr1⟩ := open_type (hval 1 24 v1 rfl rfl) h1
  clear hA0 hval0
  refine (walk m0 v0 y0 m1 v1 y1  W (tab8_of hL) hr0 hr1).mono fun e W' ⟨he, bel⟩ => ?_
  subst he
  exact ⟨_, rfl, _, _, _, [], _, [], hW', trodAll_mk1 (shut_bool Tryd.underlying4 _), (trodAll_cons_mk (Below.trod laidOut (by kernel_rfl) (of_decide_eq_true (by kernel_rfl)) k0 bel lt0) (trodAll_cons_mk (Below.trod laidOut (by kernel_rfl) (of_decide_eq_true (by kernel_rfl)) k1 bel lt1) trodAll_mk0)), rfl, bel.frame _, fun h => by cases h⟩

theorem over : Rows.typingElementsRow.holds Tryd.pinned (OpenSpec.ofChange Rows.typingElementsSpec) :=
  OpenClaim.holds_of_wide 7 Tryd.f7 rfl rfl rfl rfl rfl rfl rfl ⟨rfl, rfl, rfl, rfl, rfl⟩ rfl rfl rfl rfl rfl (by kernel_rfl) Tryd.func7 (by kernel_rfl)
    (of_decide_eq_true (by kernel_rfl)) (by unfold Func.isWrapper; first | (rw [if_pos (by decide +kernel)]; kernel_rfl) | (rw [if_neg (by decide +kernel)]; exact ⟨rfl, rfl⟩))
    (fun os started H enc _ => lifted os started H enc)

/-- THE STATEMENT. -/
theorem proved : Rows.TypingElementsCardSaid :=
  Claim7.holds_tied_plain_at .later [] [.data, .data, .data, .pinned] true Rows.typingElementsCard.stood.harness false
    over (fun _ h => by cases h) (by kernel_rfl) (fun _ h => by cases h) typingElements_row_tie rfl ⟨rfl, rfl⟩ (by kernel_rfl) rfl
    (fun f fn hf hfn => by
      obtain rfl : f = 7 := Option.some.inj ((show Tryd.prog.funcNamed "pipeline/pipelinelaw08.TypingElements" = some 7 by kernel_rfl).symm.trans hf) |>.symm
      obtain rfl : fn = Tryd.f7 := (Option.some.inj (Tryd.func7.symm.trans hfn)).symm
      exact ⟨by kernel_rfl, fun j t ht => by
        rw [Tryd.params7] at ht
        have hm : t ∈ [33, 24] := by simpa using Array.mem_of_getElem? ht
        have hall : ([33, 24].all fun u => !Tryd.prog.wantsStandIn u) = true := by kernel_rfl
        exact (show Tryd.prog.wantsStandIn t = false by simpa using List.all_eq_true.1 hall t hm)⟩)
    (by kernel_rfl)
#print axioms proved
end Go.Proofs.YtabopneehhnhfabDoor.typingElements
