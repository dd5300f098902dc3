/- Contracts of functions of the program, and what they are made of (parser; Pk19). -/
import Derived.Test.YtjehhldboopocaaGreatDoorPk16
import Derived.Test.YtjehhldboopocaaGreatDoorPk18
import Derived.BigFrame
import Derived.Deep.RegionWith
import Derived.Deep.RegionHeld3
namespace Go.Proofs.YtjehhldboopocaaGreatDoor.Lx
open Go.RowKit Go.Lib
set_option linter.unusedVariables false
/-- What the loop has read: behind the byte q, with o open brackets, after the tokens T. -/
def TokI (s : ByteArray) (R : Res) (q o : Nat) (T : List Tk) : Prop := T.length ≤ q ∧ o ≤ q ∧ R = (lexF (s.data.toList.drop q) q o (endK (T.map Tk.tm))).add T
/-- What Tokens answers. -/
def TokPost (R : Res) (e : Ending) (w' : World) : Prop := match R with
  | .ok T => ∃ a c, e = .returned (.tuple #[.slice a T.length c, .int .i64 0, .int .i64 0]) ∧ ReadsK w' a (T.map Tk.tm)
  | .err p er => e = .returned (.tuple #[.slice none 0 0, .int .i64 (p : Nat), .int .i64 (er : Nat)])
theorem opn_I (o : Nat) (k : Int) (t : List UInt8) : ((opn o k t : Nat) : Int) = max ((o : Int) + opnI k t) 0 ∧ -1 ≤ opnI k t ∧ opnI k t ≤ 1 ∧ opn o k t ≤ o + 1 := by
  unfold opn opnI
  by_cases h1 : k = 4 ∧ (t = [40] ∨ t = [91])
  · rw [if_pos h1, if_pos h1]
    omega
  · rw [if_neg h1, if_neg h1]
    by_cases h2 : k = 4 ∧ (t = [41] ∨ t = [93])
    · rw [if_pos h2, if_pos h2]
      omega
    · rw [if_neg h2, if_neg h2]
      omega
theorem endK_snoc (T : List Tk) (x : Tk) : endK ((T ++ [x]).map Tk.tm) = (x.kind == 5) := by
  unfold endK
  rw [List.map_append, List.map_cons, List.map_nil, List.getLast?_concat]
  rfl
theorem infoTok : (Tryz.prog.info? 52).map (fun i => (i.zero, i.size, i.bytes)) = some (some (.agg #[.int .i64 0, .string ⟨#[]⟩, .int .i64 0]), 3, 32) := by kernel_rfl
theorem iter_below {w w' : World} {k : Nat} {s : ByteArray} {p : Nat} (h : w.heap[k]? = some (.stringIter s p)) (hb : Below w.heap.size w w') : w'.heap[k]? = some (.stringIter s p) :=
  (hb.block k (Array.getElem?_eq_some_iff.1 h).1).trans h
theorem lin_at (l : List UInt8) (h : linL l < l.length) : l[linL l]? = some 10 := by
  induction l with
  | nil => simp at h
  | cons c r ih =>
    by_cases hc : c = 10
    · subst hc
      rfl
    · have e : linL (c :: r) = linL r + 1 := by
        unfold linL
        rw [List.takeWhile_cons, show (!(c == 10)) = true by simpa using hc, if_pos rfl, List.length_cons]
      rw [e] at h ⊢
      rw [List.getElem?_cons_succ]
      exact ih (by simpa using h)
set_option maxHeartbeats 8000000 in
set_option maxRecDepth 100000 in
theorem Tokens_any (s : ByteArray) (hs : s.size ≤ 65536) (w : World) (hT : TabL w) (hO : TabO w) :
    Calls Tryz.prog 25 #[.string s] w fun e w' => TokPost (lexF s.data.toList 0 0 false) e w' ∧ Below w.heap.size w w' := by
  have hl := lenB s
  have HT := Lib.hid hT
  have HO := Lib.hid hO
  have hsI : (s.size : Int) ≤ 65536 := by omega
  obtain ⟨R, hR⟩ : ∃ R, R = lexF s.data.toList 0 0 false := ⟨_, rfl⟩
  rw [← hR]
  have HR0 := Lib.hid (show TokI s R 0 0 [] from ⟨Nat.le_refl _, Nat.le_refl _, by rw [hR, Res.add_nil]; rfl⟩)
  clear hT hO hR
  go_enter Tryz.func25, Tryz.ntmps25
  go_wp2_with fail
  go_loopw [5, 6, 7] (fun s5 s6 s7 wr => ∃ (pos e o : Nat) (T : List Tk), pos ≤ s.size ∧ e ≤ s.size ∧ s6 = .int .i64 (o : Int) ∧ s7 = .int .i64 (e : Int) ∧ Hid (Edge s e ∨ e ≤ pos) ∧ Hid (wr.heap[w.heap.size]? = some (.stringIter s pos)) ∧ Hid (Below w.heap.size w wr) ∧ Hid (RowK wr (w.heap.size + 1) s5 (T.map Tk.tm)) ∧ Hid (TokI s R (max pos e) o T)) (fun _ _ _ wr => s.size - wr.iterPos w.heap.size)
  case atStart => exact ⟨0, 0, 0, [], Nat.zero_le _, Nat.zero_le _, rfl, rfl, Lib.hid (.inr (Nat.le_refl _)), Lib.hid (World.iter_heap w s 0), Lib.hid ((Below.refl _ _).alloc (Nat.le_refl _) _), Lib.hid (RowK.nil _ _), HR0⟩
  case round =>
    obtain ⟨pos, e, o, T, hps, hes, rfl, rfl, HE, HI, HW, HK, HR⟩ := hrel
    have hlw : w.heap.size < wr.heap.size := (Array.getElem?_eq_some_iff.1 HI.out).1
    obtain ⟨ta, tc, hv, hrd⟩ := HK.out.reads
    by_cases hp : pos < s.size
    · obtain ⟨r, d, hdec, hd1, hrc⟩ : ∃ r d : Nat, Utf8.decode s pos = (r, d) ∧ (d = 1 ∨ 128 ≤ s[pos].toNat) ∧ (r = s[pos].toNat ∨ (128 ≤ r ∧ 128 ≤ s[pos].toNat)) ∧ 1 ≤ d := by
        by_cases ha : (s[pos]'hp).toNat < 128
        · exact ⟨_, _, decode_ascii s pos hp ha, .inl rfl, .inl rfl, Nat.le_refl _⟩
        · have h := decode_high s pos hp (by omega)
          generalize Utf8.decode s pos = rd at h ⊢
          obtain ⟨r, d⟩ := rd
          exact ⟨r, d, rfl, .inr (by omega), .inr ⟨h.1, by omega⟩, h.2⟩
      have hnx : ∀ ty, (Instr.next (.pointer (some ⟨w.heap.size, 0, none⟩)) true ty).run Tryz.prog wr = .ok (.tuple #[.bool true, .int .i64 pos, .int .i32 r]) (wr.iterAt w.heap.size s (pos + d)) := fun ty => by
        have h := run_next_any_at (P := Tryz.prog) wr w.heap.size s pos ty HI.out hp
        rw [hdec] at h
        exact h
      have HI1 := Lib.hid (Lib.iterAt_heap wr w.heap.size s pos (pos + d) HI.out)
      have HW1 := Lib.hid (Lib.below_iterAt HW.out (Nat.le_refl _) s (pos + d))
      have HK1 := Lib.hid (HK.out.iter (k := w.heap.size) (Nat.lt_succ_self _) s (pos + d))
      have hm1 : (wr.iterAt w.heap.size s (pos + d)).iterPos w.heap.size = pos + d := by unfold World.iterPos; rw [HI1.out]
      have hm0 : wr.iterPos w.heap.size = pos := by unfold World.iterPos; rw [HI.out]
      have hd2 := hrc.2
      generalize wr.iterAt w.heap.size s (pos + d) = W1 at *
      have hpe : pos + d ≤ s.size := by
        have h := Edge.rune (s := s) (e := s.size) (pos := pos) (.inl rfl) (Nat.le_refl _) hp hp (by rw [hdec]; exact hd1)
        rw [hdec] at h
        exact h
      by_cases hlt : pos < e
      · have hq : (pos : Int) < (e : Int) := by omega
        have he2 : pos + d ≤ e := by
          rcases HE.out with h | h
          · have h := Edge.rune (s := s) (e := e) (pos := pos) h hes hp hlt (by rw [hdec]; exact hd1)
            rw [hdec] at h
            exact h
          · omega
        have HR1 := Lib.hid (show TokI s R (max (pos + d) e) o T from by
          have h := HR.out
          rw [Nat.max_eq_right (Nat.le_of_lt hlt)] at h
          rw [Nat.max_eq_right he2]
          exact h)
        have HE1 := Lib.hid (show Edge s e ∨ e ≤ pos + d from HE.out.imp_right (fun h => by omega))
        clear hrc hdec hd1 hrd hv HR
        go_wp2_with fail
        exact ⟨⟨pos + d, e, o, T, hpe, hes, rfl, rfl, HE1, HI1, HW1, HK1, HR1⟩, by rw [hm1, hm0]; omega⟩
      · have hq : ¬ (pos : Int) < (e : Int) := by omega
        have hep : e ≤ pos := Nat.le_of_not_lt hlt
        have hcons := drop_consB s pos hp
        have hR0 := HR.out
        rw [Nat.max_eq_left hep] at hR0
        unfold TokI at hR0
        rw [hcons] at hR0
        obtain ⟨c, hc⟩ : ∃ c, c = s[pos] := ⟨_, rfl⟩
        rw [← hc] at hrc hd1 hR0 hcons
        have hc9 := c.toNat_lt
        by_cases hb : c = 32 ∨ c = 9
        · have hr : r = 32 ∨ r = 9 := by
            rcases hb with rfl | rfl
            · left; rcases hrc.1 with h | h
              · exact h
              · exact absurd h.2 (by decide)
            · right; rcases hrc.1 with h | h
              · exact h
              · exact absurd h.2 (by decide)
          have hd3 : d = 1 := by
            rcases hd1 with h | h
            · exact h
            · rcases hb with rfl | rfl <;> exact absurd h (by decide)
          subst hd3
          have HR1 := Lib.hid (show TokI s R (max (pos + 1) e) o T from by
            rw [Nat.max_eq_left (by omega)]
            refine ⟨by omega, by omega, ?_⟩
            rw [hR0.2.2, lexF_blank c _ _ _ _ hb])
          have HE1 := Lib.hid (show Edge s e ∨ e ≤ pos + 1 from .inr (by omega))
          rcases hr with rfl | rfl
          all_goals
            clear hrc hdec hd1 hrd hv HR hR0 hcons hc hb
            go_wp2_with fail
            exact ⟨⟨pos + 1, e, o, T, hpe, hes, rfl, rfl, HE1, HI1, HW1, HK1, HR1⟩, by rw [hm1, hm0]; omega⟩
        · have hr32 : ((r : Int) == 32) = false := by
            rw [beq_eq_false_iff_ne]
            intro g
            rcases hrc.1 with h | h
            · exact hb (.inl (u8_of (n := 32) (by decide) (by omega)))
            · omega
          have hr9 : ((r : Int) == 9) = false := by
            rw [beq_eq_false_iff_ne]
            intro g
            rcases hrc.1 with h | h
            · exact hb (.inr (u8_of (n := 9) (by decide) (by omega)))
            · omega
          by_cases h35 : c = 35
          · have hr35 : r = 35 := by
              subst h35
              rcases hrc.1 with h | h
              · exact h
              · exact absurd h.2 (by decide)
            have hd3 : d = 1 := by
              subst h35
              rcases hd1 with h | h
              · exact h
              · exact absurd h (by decide)
            subst hd3
            subst hr35
            have hxl := extract_drop s pos
            have LL := Lib.hid (fun w' h => lineLength_any (s.extract pos s.size) (by rw [← lenB, hxl, List.length_drop]; omega) w' h)
            have hll := linL_le (s.data.toList.drop pos)
            rw [List.length_drop, hl] at hll
            unfold linL at hll
            rw [hxl] at LL
            have HR1 := Lib.hid (show TokI s R (max (pos + 1) (pos + linL (s.data.toList.drop pos))) o T from by
              have h1 : 1 ≤ linL (s.data.toList.drop pos) := by
                rw [hcons, h35]
                unfold linL
                rw [List.takeWhile_cons]
                simp
              rw [Nat.max_eq_right (by omega)]
              refine ⟨by omega, by omega, ?_⟩
              have h2 := hR0.2.2
              rw [h35, lexF_note, ← h35, ← hcons, List.drop_drop] at h2
              exact h2)
            have HE1 := Lib.hid (show Edge s (pos + linL (s.data.toList.drop pos)) ∨ pos + linL (s.data.toList.drop pos) ≤ pos + 1 from by
              left
              by_cases hz : pos + linL (s.data.toList.drop pos) = s.size
              · exact .inl hz
              · right
                left
                have hlt2 : pos + linL (s.data.toList.drop pos) < s.size := by
                  have h9 := linL_le (s.data.toList.drop pos)
                  rw [List.length_drop, hl] at h9
                  omega
                refine ⟨hlt2, ?_⟩
                have h3 := lin_at (s.data.toList.drop pos) (by rw [List.length_drop, hl]; omega)
                rw [List.getElem?_drop, List.getElem?_eq_getElem (by rw [hl]; exact hlt2)] at h3
                injection h3 with h3
                have h4 : s[pos + linL (s.data.toList.drop pos)] = 10 := h3
                rw [h4]
                decide)
            unfold linL at HR1 HE1
            generalize hn : (List.takeWhile (fun c => !(c == 10)) (List.drop pos s.data.toList)).length = n at *
            have hnI : (0 : Int) ≤ (n : Int) ∧ (pos : Int) + (n : Int) ≤ 65536 := by
              have h1 : pos + n ≤ s.size := by omega
              omega
            have hp0 : (0 : Int) ≤ (pos : Int) ∧ (pos : Int) ≤ (s.size : Int) := by omega
            have sf := fun w => slice_fromS s pos hps (by omega) w
            rw [show (⟨(s.data.toList.drop pos).toArray⟩ : ByteArray) = s.extract pos s.size from by rw [← hxl]] at sf
            generalize s.extract pos s.size = sx at sf LL
            clear hrc hdec hd1 hrd hv HR hR0 hcons hc hb hxl hn
            go_wp2_with fail
            go_fit (LL.out _ (HT.out.below HW1.out))
            rintro e2 w2 ⟨rfl, hb2⟩
            have HI2 := Lib.hid (iter_below HI1.out hb2)
            have HW2 := Lib.hid (HW1.out.trans (hb2.mono HW1.out.size))
            have HK2 := Lib.hid (HK1.out.below hb2)
            have hm2 : w2.iterPos w.heap.size = pos + 1 := iterPos_of HI2.out
            clear hb2
            go_wp2_with fail
            exact ⟨⟨pos + 1, pos + n, o, T, hpe, by omega, rfl, by go_num, HE1, HI2, HW2, HK2, HR1⟩, by rw [hm2, hm0]; omega⟩
          · have hr35 : ((r : Int) == 35) = false := by
              rw [beq_eq_false_iff_ne]
              intro g
              rcases hrc.1 with h | h
              · exact h35 (u8_of (n := 35) (by decide) (by omega))
              · omega
            have ho0 : (0 : Int) ≤ (o : Int) := by omega
            have EL := Lib.hid (fun w' h => endsLine_any (T.map Tk.tm) ta tc (by rw [List.length_map]; omega) w' h)
            rw [List.length_map] at EL hv
            by_cases h10 : c = 10 ∧ (o ≠ 0 ∨ endK (T.map Tk.tm) = true)
            · obtain ⟨h10, hon⟩ := h10
              have hr10 : r = 10 := by
                subst h10
                rcases hrc.1 with h | h
                · exact h
                · exact absurd h.2 (by decide)
              have hd3 : d = 1 := by
                subst h10
                rcases hd1 with h | h
                · exact h
                · exact absurd h (by decide)
              subst hd3
              subst hr10
              have HR1 := Lib.hid (show TokI s R (max (pos + 1) e) o T from by
                rw [Nat.max_eq_left (by omega)]
                refine ⟨by omega, by omega, ?_⟩
                rw [hR0.2.2, h10, lexF_line _ _ _ _ hon])
              have HE1 := Lib.hid (show Edge s e ∨ e ≤ pos + 1 from .inr (by omega))
              have hRW := Lib.hid (show ReadsK W1 ta (T.map Tk.tm) from by
                obtain ⟨a9, c9, e9, h9⟩ := HK1.out.reads
                rw [hv, List.length_map] at e9
                cases e9
                exact h9)
              subst hv
              by_cases ho : o = 0
              · have hel : endK (T.map Tk.tm) = true := hon.resolve_left (fun g => g ho)
                subst ho
                rw [hel] at EL
                clear hrc hdec hd1 hrd HR hR0 hcons hc hb h10 hon hel HK h35
                go_wp2_with fail
                go_fit (EL.out _ hRW.out)
                rintro e2 w2 ⟨rfl, hb2⟩
                have HI2 := Lib.hid (iter_below HI1.out hb2)
                have HW2 := Lib.hid (HW1.out.trans (hb2.mono HW1.out.size))
                have HK2 := Lib.hid (HK1.out.below hb2)
                have hm2 : w2.iterPos w.heap.size = pos + 1 := iterPos_of HI2.out
                clear hb2
                go_wp2_with fail
                exact ⟨⟨pos + 1, e, 0, T, hpe, hes, rfl, rfl, HE1, HI2, HW2, HK2, HR1⟩, by rw [hm2, hm0]; omega⟩
              · have ho1 : (0 : Int) < (o : Int) := by omega
                clear hrc hdec hd1 hrd HR hR0 hcons hc hb h10 hon HK h35 ho
                go_wp2_with fail
                exact ⟨⟨pos + 1, e, o, T, hpe, hes, rfl, rfl, HE1, HI1, HW1, HK1, HR1⟩, by rw [hm1, hm0]; omega⟩
            · have h10' : c = 10 → o = 0 ∧ endK (T.map Tk.tm) = false := fun g => by
                constructor
                · apply Classical.byContradiction
                  intro g2
                  exact h10 ⟨g, .inl g2⟩
                · cases hk : endK (T.map Tk.tm)
                  · rfl
                  · exact absurd ⟨g, .inr hk⟩ h10
              have hstep := hR0.2.2
              rw [lexF_fir c _ pos o _ ⟨fun g => hb (.inl g), fun g => hb (.inr g), h35⟩ h10'] at hstep
              have hedge := firF_edge c (s.data.toList.drop (pos + 1))
              have hxl := extract_drop s pos
              have FI := Lib.hid (fun w' h h2 => first_any (s.extract pos s.size) (by rw [← lenB, hxl, List.length_drop]; omega) (by rw [← lenB, hxl, List.length_drop]; omega) w' h h2)
              rw [hxl, hcons] at FI
              generalize firF (c :: s.data.toList.drop (pos + 1)) = F at hstep hedge FI
              obtain ⟨k, t, n, er⟩ := F
              simp only at hstep hedge FI
              unfold tkV at FI
              obtain ⟨tx, htx⟩ : ∃ tx : ByteArray, tx = ⟨t.toArray⟩ := ⟨_, rfl⟩
              rw [← htx] at FI
              have sf := fun w => slice_fromS s pos hps (by omega) w
              rw [show (⟨(s.data.toList.drop pos).toArray⟩ : ByteArray) = s.extract pos s.size from by rw [← hxl]] at sf
              generalize s.extract pos s.size = sx at sf FI
              have hp0 : (0 : Int) ≤ (pos : Int) ∧ (pos : Int) ≤ (s.size : Int) := by omega
              have hRW := Lib.hid (show ReadsK W1 ta (T.map Tk.tm) from by
                obtain ⟨a9, c9, e9, h9⟩ := HK1.out.reads
                rw [hv, List.length_map] at e9
                cases e9
                exact h9)
              subst hv
              by_cases hc10 : c = 10
              · obtain ⟨ho, hek⟩ := h10' hc10
                subst ho
                rw [hek] at EL
                have hr10 : r = 10 := by
                  subst hc10
                  rcases hrc.1 with h | h
                  · exact h
                  · exact absurd h.2 (by decide)
                subst hr10
                have hTq : T.length ≤ pos ∧ 0 ≤ pos := ⟨hR0.1, hR0.2.1⟩
                have hcons2 := hcons
                have hrune : ∀ e', Edge s e' → e' ≤ s.size → pos < e' → pos + d ≤ e' := fun e' h1 h2 h3 => by
                  have h := Edge.rune (s := s) (e := e') (pos := pos) h1 h2 hp h3 (by rw [hdec, ← hc]; exact hd1)
                  rw [hdec] at h
                  exact h
                clear hrc hdec hd1 HR hR0 hcons hc hb h10 h10' HK h35 hc10 hek hxl
                go_wp2_with fail
                go_fit (EL.out _ hRW.out)
                rintro e9 w9 ⟨rfl, hb9⟩
                have HI1 := Lib.hid (iter_below HI1.out hb9)
                have HW1 := Lib.hid (HW1.out.trans (hb9.mono HW1.out.size))
                have HK1 := Lib.hid (HK1.out.below hb9)
                clear hb9
                go_wp2_with fail
                go_fit (FI.out _ (HT.out.below HW1.out) (HO.out.below HW1.out))
                rintro e2 w2 ⟨rfl, hb2⟩
                have HI2 := Lib.hid (iter_below HI1.out hb2)
                have HW2 := Lib.hid (HW1.out.trans (hb2.mono HW1.out.size))
                have HK2 := Lib.hid (HK1.out.below hb2)
                clear hb2
                by_cases her : er = 0
                · subst her
                  obtain ⟨i0, hi, hz0, hz1, hzb⟩ := info_parts infoTok
                  have hox : w2.ownsRow (w.heap.size + 1) 52 3 (.slice ta T.length tc) T.length ((T.map Tk.tm).flatMap tkC) := by
                    have h := HK2.out
                    unfold RowK at h
                    rw [List.length_map] at h
                    exact h
                  have hTl : T.length ≤ 65536 := by have := hTq.1; omega
                  have hzz := HW2.out.size
                  have HOX := Lib.hid ((hox.alloc (Obj.cells #[.int .i64 k, .string ⟨t.toArray⟩, .int .i64 (pos : Int)] 52)).alloc (Obj.cells #[.int .i64 k, .string ⟨t.toArray⟩, .int .i64 (pos : Int)] 52))
                  have HWX := Lib.hid (((HW2.out.alloc hzz (Obj.cells #[.int .i64 k, .string ⟨t.toArray⟩, .int .i64 (pos : Int)] 52))).alloc (by simp; omega) (Obj.cells #[.int .i64 k, .string ⟨t.toArray⟩, .int .i64 (pos : Int)] 52))
                  have hlt3 := World.ownsRow.lt hox
                  clear hox
                  go_wp2_with (at_builtin; refine wpList_append_own _ rfl _ _ 37 rfl (w.heap.size + 1) 52 i0 (.agg #[.int .i64 0, .string ⟨#[]⟩, .int .i64 0]) 3 32 Tryz.underlying37 hi hz0 hz1 hzb rfl (by decide) _ _ _ rfl HOX.out ⟨w2.heap.size + 1, 0, none⟩ 1 1 [.int .i64 k, .string ⟨t.toArray⟩, .int .i64 (pos : Int)] rfl rfl ?c1 ?c2 ?c3 ?c4 ?c5 ?_)
                  case c1 =>
                    intro j u hj
                    match j, hj with
                    | 0, hj => simp at hj; subst hj; simp [Addr.add, go_sem]
                    | 1, hj => simp at hj; subst hj; simp [Addr.add, go_sem]
                    | 2, hj => simp at hj; subst hj; simp [Addr.add, go_sem]
                  case c2 => intro u hu; simp at hu; rcases hu with rfl | rfl | rfl <;> rfl
                  case c3 => unfold maxLen; omega
                  case c4 => omega
                  case c5 => simp; omega
                  intro v' w3 hown' hgrow _
                  have hne : some w2.heap.size ≠ (Value.slice ta T.length tc).ownBlock := by
                    intro g
                    have h := (hlt3 _ g.symm).2
                    omega
                  have b0 : w3.cell? ⟨w2.heap.size, 0, none⟩ = some (.int .i64 k) := hgrow.cell (a := ⟨w2.heap.size, 0, none⟩) (by simp) hne
                  have b1 : w3.cell? ⟨w2.heap.size, 1, none⟩ = some (.string ⟨t.toArray⟩) := hgrow.cell (a := ⟨w2.heap.size, 1, none⟩) (by simp) hne
                  have b2 : w3.cell? ⟨w2.heap.size, 2, none⟩ = some (.int .i64 (pos : Int)) := hgrow.cell (a := ⟨w2.heap.size, 2, none⟩) (by simp) hne
                  have HW3 := Lib.hid (HWX.out.grown hgrow (by simp; omega) (fun g hg => by have := (HOX.out.lt g hg).1; omega))
                  have HK3 := Lib.hid (show RowK w3 (w.heap.size + 1) v' ((T ++ [Tk.mk k t pos]).map Tk.tm) from by
                    unfold RowK
                    rw [List.map_append, List.flatMap_append, List.length_append, List.length_map]
                    exact hown')
                  have OP := Lib.hid (fun w' => opened_any k (pos : Int) (⟨t.toArray⟩ : ByteArray) w')
                  rw [show (⟨t.toArray⟩ : ByteArray).data.toList = t from rfl] at OP
                  obtain ⟨ho1, ho2, ho3, ho4⟩ := opn_I 0 k t
                  obtain ⟨hn1, x, hx1, hx2⟩ := hedge trivial
                  have hnl : pos + n ≤ s.size ∧ Edge s (pos + n) := by
                    rw [← hcons2, List.getElem?_drop] at hx1
                    have hlt4 : pos + (n - 1) < s.data.toList.length := (List.getElem?_eq_some_iff.1 hx1).1
                    refine ⟨by omega, .inr (.inr ⟨by omega, by omega, ?_⟩)⟩
                    rw [List.getElem?_eq_getElem hlt4] at hx1
                    injection hx1 with hx1
                    have e9 : s[pos + n - 1]'(by omega) = x := by
                      rw [← hx1]
                      show s.data.toList[pos + n - 1]'(by omega) = _
                      congr 1
                      omega
                    rw [e9]
                    exact hx2
                  have hpn : pos + d ≤ pos + n := hrune (pos + n) hnl.2 hnl.1 (by omega)
                  have HR1 := Lib.hid (show TokI s R (max (pos + d) (pos + n)) (opn 0 k t) (T ++ [Tk.mk k t pos]) from by
                    rw [Nat.max_eq_right hpn]
                    refine ⟨?_, ?_, ?_⟩
                    · have := hTq.1
                      rw [List.length_append, List.length_singleton]
                      omega
                    · have := hTq.2
                      omega
                    · rw [hstep, if_neg (fun g => g rfl), endK_snoc, Res.add_add, ← hcons2, List.drop_drop])
                  have HE1 := Lib.hid (show Edge s (pos + n) ∨ pos + n ≤ pos + d from .inl hnl.2)
                  have hmI : (if ((0 : Nat) : Int) + opnI k t < 0 then (0 : Int) else ((0 : Nat) : Int) + opnI k t) = ((opn 0 k t : Nat) : Int) := by rw [ho1]; split <;> omega
                  have hnI : (0 : Int) ≤ (n : Int) ∧ (pos : Int) + (n : Int) ≤ 65536 := by have := hnl.1; omega
                  have hoI1 : -1 ≤ ((0 : Nat) : Int) + opnI k t := by omega
                  have hoI2 : ((0 : Nat) : Int) + opnI k t ≤ 70000 := by have := hTq.2; omega
                  have hwr : IntKind.i64.wrap (((0 : Nat) : Int) + opnI k t) = ((0 : Nat) : Int) + opnI k t := by rw [IntKind.wrap_i64]; omega
                  have hlw2 : w.heap.size < w2.heap.size := (Array.getElem?_eq_some_iff.1 HI2.out).1
                  have HI3 := Lib.hid (show w3.heap[w.heap.size]? = some (.stringIter s (pos + d)) from by
                    rw [hgrow.block w.heap.size (by simp; omega) (fun g => by have := (hlt3 _ g.symm).1; omega)]
                    rw [Below.heap_alloc _ _ _ (by simp; omega), Below.heap_alloc _ _ _ (by omega)]
                    exact HI2.out)
                  clear hown' hgrow hne hstep hedge hx1
                  generalize opnI k t = oi at *
                  generalize opn 0 k t = on at *
                  go_wp2_with fail
                  go_fit (OP.out _)
                  rintro e3 w4 ⟨rfl, hb4⟩
                  have HI4 := Lib.hid (iter_below HI3.out hb4)
                  have HW4 := Lib.hid (HW3.out.trans (hb4.mono HW3.out.size))
                  have HK4 := Lib.hid (HK3.out.below hb4)
                  have hm4 : w4.iterPos w.heap.size = pos + d := iterPos_of HI4.out
                  clear hb4
                  go_wp2_with fail
                  exact ⟨⟨pos + d, pos + n, on, T ++ [Tk.mk k t pos], hpe, hnl.1, by rw [ho1]; simp, by go_num, HE1, HI4, HW4, HK4, HR1⟩, by rw [hm4, hm0]; omega⟩
                · have q3 : ((er : Int) != 0) = true := by rw [bne_iff_ne]; omega
                  have hRE := Lib.hid (show R = .err pos er from by
                    rw [hstep, if_pos her]
                    rfl)
                  clear hstep hedge
                  go_wp2_with fail
                  go_ret3
                  refine ⟨?_, ?_⟩
                  · rw [hRE.out]
                    rfl
                  · exact HW2.out.alloc HW2.out.size _
              · have hr10 : ((r : Int) == 10) = false := by
                  rw [beq_eq_false_iff_ne]
                  intro g
                  rcases hrc.1 with h | h
                  · exact hc10 (u8_of (n := 10) (by decide) (by omega))
                  · omega
                have hTq : T.length ≤ pos ∧ o ≤ pos := ⟨hR0.1, hR0.2.1⟩
                have hcons2 := hcons
                have hrune : ∀ e', Edge s e' → e' ≤ s.size → pos < e' → pos + d ≤ e' := fun e' h1 h2 h3 => by
                  have h := Edge.rune (s := s) (e := e') (pos := pos) h1 h2 hp h3 (by rw [hdec, ← hc]; exact hd1)
                  rw [hdec] at h
                  exact h
                clear hrc hdec hd1 HR hR0 hcons hc hb h10 h10' HK h35 hc10 EL hxl
                go_wp2_with fail
                go_fit (FI.out _ (HT.out.below HW1.out) (HO.out.below HW1.out))
                rintro e2 w2 ⟨rfl, hb2⟩
                have HI2 := Lib.hid (iter_below HI1.out hb2)
                have HW2 := Lib.hid (HW1.out.trans (hb2.mono HW1.out.size))
                have HK2 := Lib.hid (HK1.out.below hb2)
                clear hb2
                by_cases her : er = 0
                · subst her
                  obtain ⟨i0, hi, hz0, hz1, hzb⟩ := info_parts infoTok
                  have hox : w2.ownsRow (w.heap.size + 1) 52 3 (.slice ta T.length tc) T.length ((T.map Tk.tm).flatMap tkC) := by
                    have h := HK2.out
                    unfold RowK at h
                    rw [List.length_map] at h
                    exact h
                  have hTl : T.length ≤ 65536 := by have := hTq.1; omega
                  have hzz := HW2.out.size
                  have HOX := Lib.hid ((hox.alloc (Obj.cells #[.int .i64 k, .string ⟨t.toArray⟩, .int .i64 (pos : Int)] 52)).alloc (Obj.cells #[.int .i64 k, .string ⟨t.toArray⟩, .int .i64 (pos : Int)] 52))
                  have HWX := Lib.hid (((HW2.out.alloc hzz (Obj.cells #[.int .i64 k, .string ⟨t.toArray⟩, .int .i64 (pos : Int)] 52))).alloc (by simp; omega) (Obj.cells #[.int .i64 k, .string ⟨t.toArray⟩, .int .i64 (pos : Int)] 52))
                  have hlt3 := World.ownsRow.lt hox
                  clear hox
                  go_wp2_with (at_builtin; refine wpList_append_own _ rfl _ _ 37 rfl (w.heap.size + 1) 52 i0 (.agg #[.int .i64 0, .string ⟨#[]⟩, .int .i64 0]) 3 32 Tryz.underlying37 hi hz0 hz1 hzb rfl (by decide) _ _ _ rfl HOX.out ⟨w2.heap.size + 1, 0, none⟩ 1 1 [.int .i64 k, .string ⟨t.toArray⟩, .int .i64 (pos : Int)] rfl rfl ?c1 ?c2 ?c3 ?c4 ?c5 ?_)
                  case c1 =>
                    intro j u hj
                    match j, hj with
                    | 0, hj => simp at hj; subst hj; simp [Addr.add, go_sem]
                    | 1, hj => simp at hj; subst hj; simp [Addr.add, go_sem]
                    | 2, hj => simp at hj; subst hj; simp [Addr.add, go_sem]
                  case c2 => intro u hu; simp at hu; rcases hu with rfl | rfl | rfl <;> rfl
                  case c3 => unfold maxLen; omega
                  case c4 => omega
                  case c5 => simp; omega
                  intro v' w3 hown' hgrow _
                  have hne : some w2.heap.size ≠ (Value.slice ta T.length tc).ownBlock := by
                    intro g
                    have h := (hlt3 _ g.symm).2
                    omega
                  have b0 : w3.cell? ⟨w2.heap.size, 0, none⟩ = some (.int .i64 k) := hgrow.cell (a := ⟨w2.heap.size, 0, none⟩) (by simp) hne
                  have b1 : w3.cell? ⟨w2.heap.size, 1, none⟩ = some (.string ⟨t.toArray⟩) := hgrow.cell (a := ⟨w2.heap.size, 1, none⟩) (by simp) hne
                  have b2 : w3.cell? ⟨w2.heap.size, 2, none⟩ = some (.int .i64 (pos : Int)) := hgrow.cell (a := ⟨w2.heap.size, 2, none⟩) (by simp) hne
                  have HW3 := Lib.hid (HWX.out.grown hgrow (by simp; omega) (fun g hg => by have := (HOX.out.lt g hg).1; omega))
                  have HK3 := Lib.hid (show RowK w3 (w.heap.size + 1) v' ((T ++ [Tk.mk k t pos]).map Tk.tm) from by
                    unfold RowK
                    rw [List.map_append, List.flatMap_append, List.length_append, List.length_map]
                    exact hown')
                  have OP := Lib.hid (fun w' => opened_any k (pos : Int) (⟨t.toArray⟩ : ByteArray) w')
                  rw [show (⟨t.toArray⟩ : ByteArray).data.toList = t from rfl] at OP
                  obtain ⟨ho1, ho2, ho3, ho4⟩ := opn_I o k t
                  obtain ⟨hn1, x, hx1, hx2⟩ := hedge trivial
                  have hnl : pos + n ≤ s.size ∧ Edge s (pos + n) := by
                    rw [← hcons2, List.getElem?_drop] at hx1
                    have hlt4 : pos + (n - 1) < s.data.toList.length := (List.getElem?_eq_some_iff.1 hx1).1
                    refine ⟨by omega, .inr (.inr ⟨by omega, by omega, ?_⟩)⟩
                    rw [List.getElem?_eq_getElem hlt4] at hx1
                    injection hx1 with hx1
                    have e9 : s[pos + n - 1]'(by omega) = x := by
                      rw [← hx1]
                      show s.data.toList[pos + n - 1]'(by omega) = _
                      congr 1
                      omega
                    rw [e9]
                    exact hx2
                  have hpn : pos + d ≤ pos + n := hrune (pos + n) hnl.2 hnl.1 (by omega)
                  have HR1 := Lib.hid (show TokI s R (max (pos + d) (pos + n)) (opn o k t) (T ++ [Tk.mk k t pos]) from by
                    rw [Nat.max_eq_right hpn]
                    refine ⟨?_, ?_, ?_⟩
                    · have := hTq.1
                      rw [List.length_append, List.length_singleton]
                      omega
                    · have := hTq.2
                      omega
                    · rw [hstep, if_neg (fun g => g rfl), endK_snoc, Res.add_add, ← hcons2, List.drop_drop])
                  have HE1 := Lib.hid (show Edge s (pos + n) ∨ pos + n ≤ pos + d from .inl hnl.2)
                  have hmI : (if (o : Int) + opnI k t < 0 then (0 : Int) else (o : Int) + opnI k t) = ((opn o k t : Nat) : Int) := by rw [ho1]; split <;> omega
                  have hnI : (0 : Int) ≤ (n : Int) ∧ (pos : Int) + (n : Int) ≤ 65536 := by have := hnl.1; omega
                  have hoI1 : -1 ≤ (o : Int) + opnI k t := by omega
                  have hoI2 : (o : Int) + opnI k t ≤ 70000 := by have := hTq.2; omega
                  have hwr : IntKind.i64.wrap ((o : Int) + opnI k t) = (o : Int) + opnI k t := by rw [IntKind.wrap_i64]; omega
                  have hlw2 : w.heap.size < w2.heap.size := (Array.getElem?_eq_some_iff.1 HI2.out).1
                  have HI3 := Lib.hid (show w3.heap[w.heap.size]? = some (.stringIter s (pos + d)) from by
                    rw [hgrow.block w.heap.size (by simp; omega) (fun g => by have := (hlt3 _ g.symm).1; omega)]
                    rw [Below.heap_alloc _ _ _ (by simp; omega), Below.heap_alloc _ _ _ (by omega)]
                    exact HI2.out)
                  clear hown' hgrow hne hstep hedge hx1
                  generalize opnI k t = oi at *
                  generalize opn o k t = on at *
                  go_wp2_with fail
                  go_fit (OP.out _)
                  rintro e3 w4 ⟨rfl, hb4⟩
                  have HI4 := Lib.hid (iter_below HI3.out hb4)
                  have HW4 := Lib.hid (HW3.out.trans (hb4.mono HW3.out.size))
                  have HK4 := Lib.hid (HK3.out.below hb4)
                  have hm4 : w4.iterPos w.heap.size = pos + d := iterPos_of HI4.out
                  clear hb4
                  go_wp2_with fail
                  exact ⟨⟨pos + d, pos + n, on, T ++ [Tk.mk k t pos], hpe, hnl.1, by rw [ho1], by go_num, HE1, HI4, HW4, HK4, HR1⟩, by rw [hm4, hm0]; omega⟩
                · have q3 : ((er : Int) != 0) = true := by rw [bne_iff_ne]; omega
                  have hRE := Lib.hid (show R = .err pos er from by
                    rw [hstep, if_pos her]
                    rfl)
                  clear hstep hedge
                  go_wp2_with fail
                  go_ret3
                  refine ⟨?_, ?_⟩
                  · rw [hRE.out]
                    rfl
                  · exact HW2.out.alloc HW2.out.size _
    · have hnx : ∀ ty, (Instr.next (.pointer (some ⟨w.heap.size, 0, none⟩)) true ty).run Tryz.prog wr = .ok (.tuple #[.bool false]) wr := fun ty => run_next_end_at wr w.heap.size s pos ty HI.out hp
      have hRT := Lib.hid (show R = .ok T from by
        obtain ⟨_, _, h⟩ := HR.out
        rw [List.drop_eq_nil_of_le (by omega)] at h
        rw [h]
        have h2 := lexF_nil (l := []) (max pos e) o (endK (T.map Tk.tm)) rfl
        rw [h2]
        simp [Res.add])
      clear hlw
      rw [List.length_map] at hv
      go_wp2_with fail
      go_ret3
      refine ⟨?_, HW.out⟩
      rw [hRT.out]
      exact ⟨ta, tc, by rw [← hv]; rfl, hrd⟩
end Go.Proofs.YtjehhldboopocaaGreatDoor.Lx
namespace Go.Proofs.YtjehhldboopocaaGreatDoor.Lx
open Go.RowKit Go.Lib
set_option linter.unusedVariables false
set_option linter.unusedSimpArgs false
def Aw (w w5 : World) (mb mo : Nat) (w' : World) : Prop := w'.cell? ⟨mb, mo + 3, none⟩ = some (.int .i64 5) ∧ mb < w'.heap.size ∧ Below w.heap.size w w' ∧ Below w5.heap.size w5 w'
theorem Aw.below {w w5 w1 w2 : World} {mb mo : Nat} (h : Aw w w5 mb mo w1) (hb : Below w1.heap.size w1 w2) : Aw w w5 mb mo w2 :=
  ⟨(hb.cell (p := ⟨mb, mo + 3, none⟩) h.2.1).trans h.1, Nat.lt_of_lt_of_le h.2.1 hb.size, h.2.2.1.trans (hb.mono h.2.2.1.size), h.2.2.2.trans (hb.mono h.2.2.2.size)⟩
theorem Aw.alloc {w w5 w1 : World} {mb mo : Nat} (h : Aw w w5 mb mo w1) (o : Obj) : Aw w w5 mb mo (w1.alloc o) := h.below ((Below.refl _ _).alloc (Nat.le_refl _) _)
theorem Aw.past {w w5 w1 : World} {mb mo : Nat} (h : Aw w w5 mb mo w1) : Below w5.heap.size w5 w1 := h.2.2.2
end Go.Proofs.YtjehhldboopocaaGreatDoor.Lx
namespace Go.Proofs.YtjehhldboopocaaGreatDoor.Lx
open Go.RowKit Go.Lib
set_option linter.unusedVariables false
theorem add_err {x : Res} {p : List Tk} {a e : Nat} (h : x.add p = .err a e) : x = .err a e := by
  cases x with
  | ok l => simp [Res.add] at h
  | err b f => simpa [Res.add] using h
/-- An error is none of the numbers 0. -/
theorem lexF_err : ∀ (n : Nat) (l : List UInt8) (a o : Nat) (nl : Bool) (p e : Nat), l.length ≤ n → lexF l a o nl = .err p e → e ≠ 0 := by
  intro n
  induction n with
  | zero =>
    intro l a o nl p e hn h
    have hl : l = [] := List.eq_nil_of_length_eq_zero (by omega)
    subst hl
    rw [lexF_nil _ _ _ rfl] at h
    cases h
  | succ n ih =>
    intro l a o nl p e hn h
    cases hi : ignL false l with
    | nil =>
      rw [lexF_nil _ _ _ hi] at h
      cases h
    | cons c r =>
      have hl := ign_le hi
      rw [lexF_step _ _ _ hi] at h
      unfold stepR at h
      by_cases hc : c = 10
      · rw [if_pos hc] at h
        by_cases ho : o = 0 ∧ nl = false
        · rw [if_pos ho] at h
          exact ih r _ _ _ p e (by omega) (add_err h)
        · rw [if_neg ho] at h
          exact ih r _ _ _ p e (by omega) h
      · rw [if_neg hc] at h
        by_cases he : (tokA (c :: r)).2.2.2 ≠ 0
        · rw [if_pos he] at h
          injection h with _ h2
          rw [← h2]
          exact he
        · rw [if_neg he] at h
          have tl := tok_len c r (by omega)
          exact ih _ _ _ _ p e (by rw [List.length_drop]; simp only [List.length_cons]; omega) (add_err h)
/-- The two ways of Tokens. -/
theorem tokens_all (s : ByteArray) : (∃ p er : Nat, (((er : Int) != 0) = true ∧ ((er : Int) == 0) = false) ∧ (s.size ≤ 65536 → lexF s.data.toList 0 0 false = .err p er) ∧ ∀ w, TabL w → Calls Tryz.prog 25 #[.string s] w fun e w' => e = .returned (.tuple #[.slice none 0 0, .int .i64 (p : Nat), .int .i64 (er : Nat)]) ∧ Below w.heap.size w w') ∨
    (∃ T : List Tk, s.size ≤ 65536 ∧ lexF s.data.toList 0 0 false = .ok T ∧ ∀ w, TabL w → Calls Tryz.prog 25 #[.string s] w fun e w' => (∃ a c, e = .returned (.tuple #[.slice a T.length c, .int .i64 0, .int .i64 0]) ∧ ReadsK w' a (T.map Tk.tm)) ∧ Below w.heap.size w w') := by
  by_cases hs : s.size ≤ 65536
  · have h := fun w hT => Tokens_any s hs w hT hT.1
    cases hR : lexF s.data.toList 0 0 false with
    | ok T =>
      rw [hR] at h
      exact .inr ⟨T, hs, rfl, h⟩
    | err p er =>
      rw [hR] at h
      have h0 := lexF_err _ _ _ _ _ _ _ (Nat.le_refl _) hR
      exact .inl ⟨p, er, ⟨by rw [bne_iff_ne]; omega, by rw [beq_eq_false_iff_ne]; omega⟩, fun _ => rfl, h⟩
  · exact .inl ⟨0, 3, ⟨by decide, by decide⟩, fun h => absurd h hs, fun w _ => Tokens_long s (by omega) w⟩
end Go.Proofs.YtjehhldboopocaaGreatDoor.Lx
