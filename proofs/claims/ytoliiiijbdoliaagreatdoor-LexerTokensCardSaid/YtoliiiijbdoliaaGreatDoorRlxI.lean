/- Contract of the document's Tokens (pipelineref09). -/
import Derived.Test.YtoliiiijbdoliaaGreatDoorRlxH
import Derived.Test.YtoliiiijbdoliaaGreatDoorLexP
import Derived.Deep.DeepCutAuto
import Derived.Deep.CutBlock
namespace Go.Proofs.YtoliiiijbdoliaaGreatDoor
open Go.RowKit Go.Lib
set_option linter.unusedVariables false
set_option linter.unusedSimpArgs false

theorem ign_suf : ∀ (b : Bool) (l : List UInt8), ∃ q, l = q ++ ignL b l
  | b, [] => ⟨[], rfl⟩
  | b, c :: r => by
    by_cases h : c ≠ 10 ∧ (b = true ∨ c = 32 ∨ c = 9 ∨ c = 35)
    · obtain ⟨q, hq⟩ := ign_suf (b || c == 35) r
      exact ⟨c :: q, by rw [ignL_cons, if_pos h, List.cons_append, ← hq]⟩
    · exact ⟨[], by rw [ignL_cons, if_neg h]; rfl⟩
/-- What the loop has read: it stands at k, behind what is ignored, with o open brackets, after the tokens T. -/
def RTk (s : ByteArray) (R : Res) (k o : Nat) (T : List Tk) : Prop := ∃ p, p ≤ k ∧ k ≤ s.size ∧ T.length ≤ p ∧ o ≤ p ∧ R = (lexF (s.data.toList.drop p) p o (endK (T.map Tk.tm))).add T ∧ ignL false (s.data.toList.drop p) = s.data.toList.drop k
theorem RTk.next {s : ByteArray} {R : Res} {q o : Nat} {T : List Tk} (hq : q ≤ s.size) (hT : T.length ≤ q) (ho : o ≤ q) (h : R = (lexF (s.data.toList.drop q) q o (endK (T.map Tk.tm))).add T) : RTk s R (s.size - (ignL false (s.data.toList.drop q)).length) o T ∧ q ≤ s.size - (ignL false (s.data.toList.drop q)).length := by
  obtain ⟨x, hx⟩ := ign_suf false (s.data.toList.drop q)
  have hl := congrArg List.length hx
  rw [List.length_drop, lenB, List.length_append] at hl
  have hk : q ≤ s.size - (ignL false (s.data.toList.drop q)).length := by omega
  refine ⟨⟨q, hk, by omega, hT, ho, h, ?_⟩, hk⟩
  have h2 : s.data.toList.drop (s.size - (ignL false (s.data.toList.drop q)).length) = (s.data.toList.drop q).drop x.length := by
    rw [List.drop_drop]
    congr 1
    omega
  rw [h2]
  conv => rhs; arg 2; rw [hx]
  rw [List.drop_left]
theorem RTk.head {s : ByteArray} {R : Res} {k o : Nat} {T : List Tk} (h : RTk s R k o T) (hk : k < s.size) : R = (stepR lexF s[k] (s.data.toList.drop (k + 1)) k o (endK (T.map Tk.tm))).add T ∧ T.length ≤ k ∧ o ≤ k := by
  obtain ⟨p, h1, _, h2, h3, h4, h5⟩ := h
  have hc := drop_consB s k hk
  rw [hc] at h5
  refine ⟨?_, by omega, by omega⟩
  rw [h4, lexF_step _ _ _ h5]
  congr 2
  rw [List.length_drop, List.length_drop, lenB]
  omega
theorem RTk.done {s : ByteArray} {R : Res} {o : Nat} {T : List Tk} (h : RTk s R s.size o T) : R = .ok T := by
  obtain ⟨p, h1, _, h2, h3, h4, h5⟩ := h
  rw [show s.data.toList.drop s.size = [] from List.drop_eq_nil_of_le (by rw [lenB]; exact Nat.le_refl _)] at h5
  rw [h4, lexF_nil _ _ _ h5]
  simp [Res.add]
theorem row_set {w : World} {B : Nat} {v : Value} {L : List Tm} (h : RowK w B v L) {X : Nat} (hX : ∀ g, v.ownBlock = some g → g < X) (j : Nat) (u : Value) : RowK (w.setCell ⟨X, j, none⟩ u) B v L :=
  own_stays h (fun g hg => Below.heap_setCell w ⟨X, j, none⟩ u g (by have := hX g hg; show g ≠ X; omega))
set_option maxHeartbeats 2000000 in
theorem rTokens_long (s : ByteArray) (h : 65536 < s.size) (w : World) :
    Calls Tryz.prog 6 #[.string s] w fun e w' => e = .returned (.tuple #[.slice none 0 0, .int .i64 0, .int .i64 3]) ∧ w' = w := by
  have hI : (65536 : Int) < (s.size : Int) := by omega
  clear h
  go_enter Tryz.func6, Tryz.ntmps6
  go_wp2_with fail
  go_ret3
  exact ⟨rfl, rfl⟩
set_option maxHeartbeats 8000000 in
set_option maxRecDepth 100000 in
theorem rTokens_any (s : ByteArray) (hs : s.size ≤ 65536) (w : World) :
    Calls Tryz.prog 6 #[.string s] w fun e w' => TokPost (lexF s.data.toList 0 0 false) e w' ∧ Below w.heap.size w w' := by
  have hl := lenB s
  have hsI : (s.size : Int) ≤ 65536 := by omega
  obtain ⟨i0, hi0, hz0, hz1, hzb⟩ := info_parts infoTok
  obtain ⟨R, hR⟩ : ∃ R, R = lexF s.data.toList 0 0 false := ⟨_, rfl⟩
  rw [← hR]
  obtain ⟨hr0, -⟩ := RTk.next (s := s) (R := R) (q := 0) (o := 0) (T := []) (Nat.zero_le _) (Nat.le_refl _) (Nat.le_refl _) (by rw [hR, Res.add_nil]; rfl)
  have IG0 := Lib.hid (fun w => rIgnored_any s 0 (Nat.zero_le _) (by omega) w)
  obtain ⟨k0, hk0⟩ : ∃ k0, k0 = s.size - (ignL false (s.data.toList.drop 0)).length := ⟨_, rfl⟩
  rw [← hk0] at hr0 IG0
  have HR0 := Lib.hid hr0
  have hk0s : k0 ≤ s.size := by omega
  clear hR hr0 hk0
  go_enter Tryz.func6, Tryz.ntmps6
  go_wp2_with fail
  go_fit (IG0.out _)
  rintro e wq ⟨rfl, rfl⟩
  go_wp2_with fail
  go_loopw [5, 6, 7] (fun s5 s6 s7 wr => ∃ (k o : Nat) (T : List Tk), k ≤ s.size ∧ s6 = .int .i64 (o : Int) ∧ s7 = .int .i64 (k : Int) ∧ Hid (RTk s R k o T) ∧ Hid (RowK wr wq.heap.size s5 (T.map Tk.tm)) ∧ Hid (Below wq.heap.size wq wr)) (fun _ _ s7 _ => s.size - (RowKit.intOf s7).toNat)
  case atStart => exact ⟨k0, 0, [], hk0s, rfl, rfl, HR0, Lib.hid (RowK.nil _ _), Lib.hid (Below.refl _ _)⟩
  case round =>
    obtain ⟨k, o, T, hks, rfl, rfl, HR, HK, HB⟩ := hrel
    clear HR0 hk0s IG0
    obtain ⟨ta, tc, hv, hrd⟩ := HK.out.reads
    by_cases hlt : k < s.size
    · have hltI : (k : Int) < (s.size : Int) := by omega
      have hkI : (0 : Int) ≤ (k : Int) := by omega
      have hix := fun w => ixS s (k : Int) k rfl hlt w
      obtain ⟨hst, hTk, hok⟩ := HR.out.head hlt
      have TK := Lib.hid (fun w => rToken_any s k hlt (by omega) w)
      have hcons := drop_consB s k hlt
      rw [hcons] at TK
      obtain ⟨c, hc⟩ : ∃ c, c = s[k] := ⟨_, rfl⟩
      rw [← hc] at hst hix TK hcons
      have hc9 := c.toNat_lt
      have hcI : (0 : Int) ≤ (c.toNat : Int) ∧ (c.toNat : Int) ≤ 255 := by omega
      have hoI : (0 : Int) ≤ (o : Int) ∧ (o : Int) ≤ 65536 := by omega
      have hzz := HB.out.size
      have hTl : T.length ≤ 65536 := by omega
      unfold stepR at hst
      rw [List.length_map] at hv
      by_cases h10 : c = 10
      · rw [if_pos h10] at hst
        have q10 : ((c.toNat : Int) != 10) = false := by rw [h10]; rfl
        have W1 := Lib.hid (ThrAt.new wr 32 (.int .i64 5) (.string ⟨#[]⟩) (.int .i64 (k : Int)))
        have K1 := Lib.hid (own_stays (w' := wr.alloc (Obj.cells #[.int .i64 5, .string ⟨#[]⟩, .int .i64 (k : Int)] 32)) HK.out (fun g hg => Below.heap_alloc wr _ g (World.ownsRow.lt HK.out g hg).2))
        have D1 := Lib.hid (HB.out.alloc hzz (Obj.cells #[.int .i64 5, .string ⟨#[]⟩, .int .i64 (k : Int)] 32))
        have HXG := Lib.hid (fun g (hg : (Value.slice ta T.length tc).ownBlock = some g) => (World.ownsRow.lt HK.out g (by rw [hv]; exact hg)).2)
        subst hv
        by_cases ho0 : o = 0
        · cases he : endK (T.map Tk.tm)
          · rw [if_pos ⟨ho0, he⟩] at hst
            have g1 : ((o : Int) == 0) = true := by rw [ho0]; rfl
            by_cases hT0 : T = []
            · have g2 : ((T.length : Int) == 0) = true := by rw [hT0]; rfl
              obtain ⟨o2, ho2⟩ : ∃ o2, o2 = o := ⟨_, rfl⟩
              obtain ⟨hn1, hn2⟩ := RTk.next (s := s) (R := R) (q := k + 1) (o := o2) (T := (T ++ [Tk.mk 5 [] k])) (by omega) (by rw [List.length_append, List.length_singleton]; omega) (by omega) (by rw [hst, ho2, endK_snoc, Res.add_add]; rfl)
              have IG := (fun w => rIgnored_any s (k + 1) (by omega) (by omega) w)
              obtain ⟨k2, hk2⟩ : ∃ k2, k2 = s.size - (ignL false (s.data.toList.drop (k + 1))).length := ⟨_, rfl⟩
              rw [← hk2] at hn1 hn2 IG
              rw [show ((k + 1 : Nat) : Int) = (k : Int) + (1 : Int) by omega] at IG
              have IG := Lib.hid IG
              have HN := Lib.hid (show k2 ≤ s.size ∧ Hid (RTk s R k2 o2 (T ++ [Tk.mk 5 [] k])) ∧ k < k2 from ⟨by omega, Lib.hid hn1, by omega⟩)
              have OP := (fun w => rOpened_any o (by omega) 5 (k : Int) ⟨#[]⟩ w)
              rw [show opn o 5 (⟨#[]⟩ : ByteArray).data.toList = o2 from by rw [opn_five, ho2]] at OP
              have OP := Lib.hid OP
              clear hst hcons hc hc9 h10 ho2 hn1 hn2 hk2 TK hrd he ho0 hT0
              go_upto_region 13 with fail
              go_cut [] (fun wc => Hid (ThrAt wc wr.heap.size 32 (.int .i64 5) (.string ⟨#[]⟩) (.int .i64 (k : Int))) ∧ Hid (RowK wc wq.heap.size (.slice ta T.length tc) (T.map Tk.tm)) ∧ Hid (Below wq.heap.size wq wc))
              case first =>
                go_wp2_with fail
                go_meet
                exact ⟨W1, K1, D1⟩
              case rest =>
                obtain ⟨HTc, HKc, HDc⟩ := hcut
                have c0 := HTc.out.cell0
                have c1 := HTc.out.cell1
                have c2 := HTc.out.cell2
                have hox : wc.ownsRow wq.heap.size 32 3 (.slice ta T.length tc) T.length ((T.map Tk.tm).flatMap tkC) := by
                  have h := HKc.out
                  unfold RowK at h
                  rw [List.length_map] at h
                  exact h
                have HOX := Lib.hid (hox.alloc (Obj.cells #[.int .i64 5, .string ⟨#[]⟩, .int .i64 (k : Int)] 32))
                have hzc := HDc.out.size
                have HDX := Lib.hid (HDc.out.alloc hzc (Obj.cells #[.int .i64 5, .string ⟨#[]⟩, .int .i64 (k : Int)] 32))
                clear hox
                go_wp2_with (at_builtin; refine wpList_append_own _ rfl _ _ 23 rfl wq.heap.size 32 i0 (.agg #[.int .i64 0, .string ⟨#[]⟩, .int .i64 0]) 3 32 Tryz.underlying23 hi0 hz0 hz1 hzb rfl (by decide) _ _ _ rfl HOX.out ⟨wc.heap.size, 0, none⟩ 1 1 [.int .i64 5, .string ⟨#[]⟩, .int .i64 (k : Int)] rfl rfl ?c1 ?c2 ?c3 ?c4 ?c5 ?_)
                case c1 => exact World.news_of_block (heap_alloc_new _ _)
                case c2 => intro u hu; simp at hu; rcases hu with rfl | rfl | rfl <;> rfl
                case c3 => unfold maxLen; omega
                case c4 => omega
                case c5 => simp; omega
                intro v' wd hown' hgrow _
                have hXl := HTc.out.lt
                have HTd := Lib.hid (HTc.out.of_block (w' := wd) ((hgrow.block wr.heap.size (by simp; omega) (fun g => Nat.lt_irrefl _ (HXG.out _ g.symm))).trans (Below.heap_alloc wc _ wr.heap.size hXl)))
                have HDd := Lib.hid (HDX.out.grown hgrow (by simp; omega) (fun g hg => (HOX.out.lt g hg).1))
                have HKd := Lib.hid (show RowK wd wq.heap.size v' ((T ++ [Tk.mk 5 [] k]).map Tk.tm) from by
                  unfold RowK
                  rw [List.map_append, List.flatMap_append, List.length_append, List.length_map]
                  exact hown')
                clear hown' hgrow hXl c0 c1 c2 HOX HDX
                have c0 := HTd.out.cell0
                have c1 := HTd.out.cell1
                have c2 := HTd.out.cell2
                go_wp2_with fail
                go_fit (OP.out _)
                rintro e we ⟨rfl, hb⟩
                have HKe := Lib.hid (HKd.out.below hb)
                have HDe := Lib.hid (HDd.out.trans (hb.mono HDd.out.size))
                clear hb c0 c1 c2
                go_wp2_with fail
                go_fit (IG.out _)
                rintro e wf ⟨rfl, rfl⟩
                go_wp2_with fail
                exact ⟨⟨k2, o2, (T ++ [Tk.mk 5 [] k]), HN.out.1, rfl, rfl, HN.out.2.1, HKe, HDe⟩, by have := HN.out.2.2; simp [RowKit.intOf]; omega⟩
            · have hT1 : 0 < T.length := Nat.pos_of_ne_zero (fun e => hT0 (List.eq_nil_of_length_eq_zero e))
              have g2 : ((T.length : Int) == 0) = false := by rw [beq_eq_false_iff_ne]; omega
              obtain ⟨lb, lo, hlb, -⟩ := hrd (T.length - 1) (by rw [List.length_map]; omega)
              subst hlb
              obtain ⟨kl, hkl0⟩ : ∃ kl, kl = (T[T.length - 1]).kind := ⟨_, rfl⟩
              have hkl : endK (T.map Tk.tm) = (kl == 5) := by
                unfold endK
                rw [List.getLast?_map, List.getLast?_eq_getElem?, List.getElem?_eq_getElem (by omega), hkl0]
                rfl
              have HTP := Lib.hid hT1
              have HKL := Lib.hid (show (T[T.length - 1]?).map (·.kind) = some kl from by rw [List.getElem?_eq_getElem (by omega), hkl0]; rfl)
              clear hkl0 hrd
              have hT1I : (0 : Int) ≤ (T.length : Int) - 1 ∧ (T.length : Int) - 1 < (T.length : Int) := by omega
              have hT1n : ((T.length : Int) - 1).toNat = T.length - 1 := by omega
              have hTlI : (T.length : Int) ≤ 65536 := by omega
              have g4 : (kl != 5) = true := by
                rw [bne_iff_ne]
                intro e
                rw [hkl, e] at he
                exact absurd he (by decide)
              obtain ⟨o2, ho2⟩ : ∃ o2, o2 = o := ⟨_, rfl⟩
              obtain ⟨hn1, hn2⟩ := RTk.next (s := s) (R := R) (q := k + 1) (o := o2) (T := (T ++ [Tk.mk 5 [] k])) (by omega) (by rw [List.length_append, List.length_singleton]; omega) (by omega) (by rw [hst, ho2, endK_snoc, Res.add_add]; rfl)
              have IG := (fun w => rIgnored_any s (k + 1) (by omega) (by omega) w)
              obtain ⟨k2, hk2⟩ : ∃ k2, k2 = s.size - (ignL false (s.data.toList.drop (k + 1))).length := ⟨_, rfl⟩
              rw [← hk2] at hn1 hn2 IG
              rw [show ((k + 1 : Nat) : Int) = (k : Int) + (1 : Int) by omega] at IG
              have IG := Lib.hid IG
              have HN := Lib.hid (show k2 ≤ s.size ∧ Hid (RTk s R k2 o2 (T ++ [Tk.mk 5 [] k])) ∧ k < k2 from ⟨by omega, Lib.hid hn1, by omega⟩)
              have OP := (fun w => rOpened_any o (by omega) 5 (k : Int) ⟨#[]⟩ w)
              rw [show opn o 5 (⟨#[]⟩ : ByteArray).data.toList = o2 from by rw [opn_five, ho2]] at OP
              have OP := Lib.hid OP
              clear hst hcons hc hc9 h10 ho2 hn1 hn2 hk2 TK he ho0 hT0 hT1 hkl
              go_upto_region 13 with fail
              go_cut [] (fun wc => Hid (ThrAt wc wr.heap.size 32 (.int .i64 5) (.string ⟨#[]⟩) (.int .i64 (k : Int))) ∧ Hid (RowK wc wq.heap.size (.slice (some ⟨lb, lo, none⟩) T.length tc) (T.map Tk.tm)) ∧ Hid (Below wq.heap.size wq wc))
              case first =>
                go_wp2_with fail
                go_meet
                exact ⟨W1, K1, D1⟩
              case rest =>
                obtain ⟨HTc, HKc, HDc⟩ := hcut
                obtain ⟨ta2, tc2, hv2, hr2⟩ := HKc.out.reads
                injection hv2 with hv2 h8 h9
                clear h8 h9
                subst hv2
                obtain ⟨lb2, lo2, e1, -, e9, -⟩ := hr2 (T.length - 1) (by rw [List.length_map]; have := HTP.out; omega)
                cases e1
                rw [List.getElem_map] at e9
                have hk9 : (T[T.length - 1]'(by have := HTP.out; omega)).kind = kl := by
                  have h := HKL.out
                  rw [List.getElem?_eq_getElem (by have := HTP.out; omega)] at h
                  injection h
                rw [show ((T[T.length - 1]'(by have := HTP.out; omega)).tm).kind = kl from hk9] at e9
                clear hk9
                clear hr2
                have c0 := HTc.out.cell0
                have c1 := HTc.out.cell1
                have c2 := HTc.out.cell2
                have hox : wc.ownsRow wq.heap.size 32 3 (.slice (some ⟨lb, lo, none⟩) T.length tc) T.length ((T.map Tk.tm).flatMap tkC) := by
                  have h := HKc.out
                  unfold RowK at h
                  rw [List.length_map] at h
                  exact h
                have HOX := Lib.hid (hox.alloc (Obj.cells #[.int .i64 5, .string ⟨#[]⟩, .int .i64 (k : Int)] 32))
                have hzc := HDc.out.size
                have HDX := Lib.hid (HDc.out.alloc hzc (Obj.cells #[.int .i64 5, .string ⟨#[]⟩, .int .i64 (k : Int)] 32))
                clear hox
                go_wp2_with (at_builtin; refine wpList_append_own _ rfl _ _ 23 rfl wq.heap.size 32 i0 (.agg #[.int .i64 0, .string ⟨#[]⟩, .int .i64 0]) 3 32 Tryz.underlying23 hi0 hz0 hz1 hzb rfl (by decide) _ _ _ rfl HOX.out ⟨wc.heap.size, 0, none⟩ 1 1 [.int .i64 5, .string ⟨#[]⟩, .int .i64 (k : Int)] rfl rfl ?c1 ?c2 ?c3 ?c4 ?c5 ?_)
                case c1 => exact World.news_of_block (heap_alloc_new _ _)
                case c2 => intro u hu; simp at hu; rcases hu with rfl | rfl | rfl <;> rfl
                case c3 => unfold maxLen; omega
                case c4 => omega
                case c5 => simp; omega
                intro v' wd hown' hgrow _
                have hXl := HTc.out.lt
                have HTd := Lib.hid (HTc.out.of_block (w' := wd) ((hgrow.block wr.heap.size (by simp; omega) (fun g => Nat.lt_irrefl _ (HXG.out _ g.symm))).trans (Below.heap_alloc wc _ wr.heap.size hXl)))
                have HDd := Lib.hid (HDX.out.grown hgrow (by simp; omega) (fun g hg => (HOX.out.lt g hg).1))
                have HKd := Lib.hid (show RowK wd wq.heap.size v' ((T ++ [Tk.mk 5 [] k]).map Tk.tm) from by
                  unfold RowK
                  rw [List.map_append, List.flatMap_append, List.length_append, List.length_map]
                  exact hown')
                clear hown' hgrow hXl c0 c1 c2 HOX HDX
                have c0 := HTd.out.cell0
                have c1 := HTd.out.cell1
                have c2 := HTd.out.cell2
                go_wp2_with fail
                go_fit (OP.out _)
                rintro e we ⟨rfl, hb⟩
                have HKe := Lib.hid (HKd.out.below hb)
                have HDe := Lib.hid (HDd.out.trans (hb.mono HDd.out.size))
                clear hb c0 c1 c2
                go_wp2_with fail
                go_fit (IG.out _)
                rintro e wf ⟨rfl, rfl⟩
                go_wp2_with fail
                exact ⟨⟨k2, o2, (T ++ [Tk.mk 5 [] k]), HN.out.1, rfl, rfl, HN.out.2.1, HKe, HDe⟩, by have := HN.out.2.2; simp [RowKit.intOf]; omega⟩
          · rw [if_neg (fun h => by rw [he] at h; exact absurd h.2 (by decide))] at hst
            have g1 : ((o : Int) == 0) = true := by rw [ho0]; rfl
            have hT0 : T ≠ [] := fun e => by rw [e] at he; exact absurd he (by decide)
            have hT1 : 0 < T.length := Nat.pos_of_ne_zero (fun e => hT0 (List.eq_nil_of_length_eq_zero e))
            have g2 : ((T.length : Int) == 0) = false := by rw [beq_eq_false_iff_ne]; omega
            obtain ⟨lb, lo, hlb, -⟩ := hrd (T.length - 1) (by rw [List.length_map]; omega)
            subst hlb
            obtain ⟨kl, hkl0⟩ : ∃ kl, kl = (T[T.length - 1]).kind := ⟨_, rfl⟩
            have hkl : endK (T.map Tk.tm) = (kl == 5) := by
              unfold endK
              rw [List.getLast?_map, List.getLast?_eq_getElem?, List.getElem?_eq_getElem (by omega), hkl0]
              rfl
            have HTP := Lib.hid hT1
            have HKL := Lib.hid (show (T[T.length - 1]?).map (·.kind) = some kl from by rw [List.getElem?_eq_getElem (by omega), hkl0]; rfl)
            clear hkl0 hrd
            have hT1I : (0 : Int) ≤ (T.length : Int) - 1 ∧ (T.length : Int) - 1 < (T.length : Int) := by omega
            have hT1n : ((T.length : Int) - 1).toNat = T.length - 1 := by omega
            have hTlI : (T.length : Int) ≤ 65536 := by omega
            have g4 : (kl != 5) = false := by
              rw [bne_eq_false_iff_eq]
              rw [hkl] at he
              exact eq_of_beq he
            obtain ⟨o2, ho2⟩ : ∃ o2, o2 = o := ⟨_, rfl⟩
            obtain ⟨hn1, hn2⟩ := RTk.next (s := s) (R := R) (q := k + 1) (o := o2) (T := T) (by omega) (by omega) (by omega) (by rw [hst, ho2])
            have IG := (fun w => rIgnored_any s (k + 1) (by omega) (by omega) w)
            obtain ⟨k2, hk2⟩ : ∃ k2, k2 = s.size - (ignL false (s.data.toList.drop (k + 1))).length := ⟨_, rfl⟩
            rw [← hk2] at hn1 hn2 IG
            rw [show ((k + 1 : Nat) : Int) = (k : Int) + (1 : Int) by omega] at IG
            have IG := Lib.hid IG
            have HN := Lib.hid (show k2 ≤ s.size ∧ Hid (RTk s R k2 o2 T) ∧ k < k2 from ⟨by omega, Lib.hid hn1, by omega⟩)
            have OP := (fun w => rOpened_any o (by omega) 5 (k : Int) ⟨#[]⟩ w)
            rw [show opn o 5 (⟨#[]⟩ : ByteArray).data.toList = o2 from by rw [opn_five, ho2]] at OP
            have OP := Lib.hid OP
            clear hst hcons hc hc9 h10 ho2 hn1 hn2 hk2 TK he ho0 hT0 hT1 hkl
            go_upto_region 13 with fail
            go_cut [] (fun wc => Hid (ThrAt wc wr.heap.size 32 (.int .i64 5) (.string ⟨#[]⟩) (.int .i64 (k : Int))) ∧ Hid (RowK wc wq.heap.size (.slice (some ⟨lb, lo, none⟩) T.length tc) (T.map Tk.tm)) ∧ Hid (Below wq.heap.size wq wc))
            case first =>
              go_wp2_with fail
              go_meet
              exact ⟨W1, K1, D1⟩
            case rest =>
              obtain ⟨HTc, HKc, HDc⟩ := hcut
              obtain ⟨ta2, tc2, hv2, hr2⟩ := HKc.out.reads
              injection hv2 with hv2 h8 h9
              clear h8 h9
              subst hv2
              obtain ⟨lb2, lo2, e1, -, e9, -⟩ := hr2 (T.length - 1) (by rw [List.length_map]; have := HTP.out; omega)
              cases e1
              rw [List.getElem_map] at e9
              have hk9 : (T[T.length - 1]'(by have := HTP.out; omega)).kind = kl := by
                have h := HKL.out
                rw [List.getElem?_eq_getElem (by have := HTP.out; omega)] at h
                injection h
              rw [show ((T[T.length - 1]'(by have := HTP.out; omega)).tm).kind = kl from hk9] at e9
              clear hk9
              clear hr2
              have c0 := HTc.out.cell0
              have c1 := HTc.out.cell1
              have c2 := HTc.out.cell2
              go_wp2_with fail
              go_fit (OP.out _)
              rintro e we ⟨rfl, hb⟩
              have HKe := Lib.hid (HKc.out.below hb)
              have HDe := Lib.hid (HDc.out.trans (hb.mono HDc.out.size))
              clear hb c0 c1 c2
              go_wp2_with fail
              go_fit (IG.out _)
              rintro e wf ⟨rfl, rfl⟩
              go_wp2_with fail
              exact ⟨⟨k2, o2, T, HN.out.1, rfl, rfl, HN.out.2.1, HKe, HDe⟩, by have := HN.out.2.2; simp [RowKit.intOf]; omega⟩
        · rw [if_neg (fun h => ho0 h.1)] at hst
          have g1 : ((o : Int) == 0) = false := by rw [beq_eq_false_iff_ne]; omega
          obtain ⟨o2, ho2⟩ : ∃ o2, o2 = o := ⟨_, rfl⟩
          obtain ⟨hn1, hn2⟩ := RTk.next (s := s) (R := R) (q := k + 1) (o := o2) (T := T) (by omega) (by omega) (by omega) (by rw [hst, ho2])
          have IG := (fun w => rIgnored_any s (k + 1) (by omega) (by omega) w)
          obtain ⟨k2, hk2⟩ : ∃ k2, k2 = s.size - (ignL false (s.data.toList.drop (k + 1))).length := ⟨_, rfl⟩
          rw [← hk2] at hn1 hn2 IG
          rw [show ((k + 1 : Nat) : Int) = (k : Int) + (1 : Int) by omega] at IG
          have IG := Lib.hid IG
          have HN := Lib.hid (show k2 ≤ s.size ∧ Hid (RTk s R k2 o2 T) ∧ k < k2 from ⟨by omega, Lib.hid hn1, by omega⟩)
          have OP := (fun w => rOpened_any o (by omega) 5 (k : Int) ⟨#[]⟩ w)
          rw [show opn o 5 (⟨#[]⟩ : ByteArray).data.toList = o2 from by rw [opn_five, ho2]] at OP
          have OP := Lib.hid OP
          clear hst hcons hc hc9 h10 ho2 hn1 hn2 hk2 TK hrd ho0
          go_upto_region 13 with fail
          go_cut [] (fun wc => Hid (ThrAt wc wr.heap.size 32 (.int .i64 5) (.string ⟨#[]⟩) (.int .i64 (k : Int))) ∧ Hid (RowK wc wq.heap.size (.slice ta T.length tc) (T.map Tk.tm)) ∧ Hid (Below wq.heap.size wq wc))
          case first =>
            go_wp2_with fail
            go_meet
            exact ⟨W1, K1, D1⟩
          case rest =>
            obtain ⟨HTc, HKc, HDc⟩ := hcut
            have c0 := HTc.out.cell0
            have c1 := HTc.out.cell1
            have c2 := HTc.out.cell2
            go_wp2_with fail
            go_fit (OP.out _)
            rintro e we ⟨rfl, hb⟩
            have HKe := Lib.hid (HKc.out.below hb)
            have HDe := Lib.hid (HDc.out.trans (hb.mono HDc.out.size))
            clear hb c0 c1 c2
            go_wp2_with fail
            go_fit (IG.out _)
            rintro e wf ⟨rfl, rfl⟩
            go_wp2_with fail
            exact ⟨⟨k2, o2, T, HN.out.1, rfl, rfl, HN.out.2.1, HKe, HDe⟩, by have := HN.out.2.2; simp [RowKit.intOf]; omega⟩
      · rw [if_neg h10] at hst
        have q10 : ((c.toNat : Int) != 10) = true := by
          rw [bne_iff_ne]
          intro e
          exact h10 (u8_of (n := 10) (by decide) (by omega))
        have HXG := Lib.hid (fun g (hg : (Value.slice ta T.length tc).ownBlock = some g) => (World.ownsRow.lt HK.out g (by rw [hv]; exact hg)).2)
        subst hv
        obtain ⟨A, hA⟩ : ∃ A, A = tokA (c :: s.data.toList.drop (k + 1)) := ⟨_, rfl⟩
        have htl := tok_len c (s.data.toList.drop (k + 1))
        have htk := tokA_kind c (s.data.toList.drop (k + 1))
        rw [← hA] at hst TK htl htk
        obtain ⟨kd, tl, n, er⟩ := A
        simp only at hst TK htl htk
        unfold tkV at TK
        obtain ⟨tx, htx⟩ : ∃ tx : ByteArray, tx = ⟨tl.toArray⟩ := ⟨_, rfl⟩
        rw [← htx] at TK
        have htxd : tx.data.toList = tl := by rw [htx]
        have T0 := Lib.hid (ThrAt.new wr 32 (.int .i64 5) (.string ⟨#[]⟩) (.int .i64 0))
        have D0 := Lib.hid (HB.out.alloc hzz (Obj.cells #[.int .i64 5, .string ⟨#[]⟩, .int .i64 0] 32))
        have K0 := Lib.hid (own_stays (w' := wr.alloc (Obj.cells #[.int .i64 5, .string ⟨#[]⟩, .int .i64 0] 32)) HK.out (fun g hg => Below.heap_alloc wr _ g (World.ownsRow.lt HK.out g hg).2))
        by_cases her : er = 0
        · subst her
          rw [if_neg (fun h => h rfl)] at hst
          obtain ⟨hn1', hn2'⟩ := htl rfl
          rw [← hcons, List.length_drop, hl] at hn2'
          have hkd := htk rfl
          have q5 : (kd != 5) = true := by rw [bne_iff_ne]; omega
          rw [← hcons, List.drop_drop] at hst
          obtain ⟨hop1, -, -, hop2⟩ := opn_I o kd tl
          have hkf : ((Tk.mk kd tl k).kind == 5) = false := by
            show (kd == 5) = false
            rw [beq_eq_false_iff_ne]
            omega
          have hnI : (1 : Int) ≤ (n : Int) ∧ (k : Int) + (n : Int) ≤ (s.size : Int) := by omega
          obtain ⟨o2, ho2⟩ : ∃ o2, o2 = opn o kd tl := ⟨_, rfl⟩
          obtain ⟨hn1, hn2⟩ := RTk.next (s := s) (R := R) (q := k + n) (o := o2) (T := (T ++ [Tk.mk kd tl k])) (by omega) (by rw [List.length_append, List.length_singleton]; omega) (by omega) (by rw [hst, ho2, endK_snoc, Res.add_add, hkf])
          have IG := (fun w => rIgnored_any s (k + n) (by omega) (by omega) w)
          obtain ⟨k2, hk2⟩ : ∃ k2, k2 = s.size - (ignL false (s.data.toList.drop (k + n))).length := ⟨_, rfl⟩
          rw [← hk2] at hn1 hn2 IG
          rw [show ((k + n : Nat) : Int) = (k : Int) + (n : Int) by omega] at IG
          have IG := Lib.hid IG
          have HN := Lib.hid (show k2 ≤ s.size ∧ Hid (RTk s R k2 o2 (T ++ [Tk.mk kd tl k])) ∧ k < k2 from ⟨by omega, Lib.hid hn1, by omega⟩)
          have OP := (fun w => rOpened_any o (by omega) kd (k : Int) tx w)
          rw [htxd, ← ho2] at OP
          have OP := Lib.hid OP
          have HTX := Lib.hid htx
          clear hst hcons hc hc9 h10 ho2 hn1 hn2 hk2 htl htk hA htx htxd hn1' hn2' hkd hop1 hop2 hrd hkf
          go_wp2_with fail
          go_fit (TK.out _)
          rintro e w1 ⟨rfl, hb⟩
          have T1 := Lib.hid (T0.out.below hb)
          have D1 := Lib.hid (D0.out.trans (hb.mono D0.out.size))
          have K1 := Lib.hid (RowK.below K0.out hb)
          have hw1 : wr.heap.size < w1.heap.size := T1.out.lt
          clear hb
          have TA0 := (T1.out).below ((Below.refl (w1).heap.size (w1)).alloc (Nat.le_refl _) (Obj.cells #[.int .i64 kd, .string tx, .int .i64 0] 32))
          have TA1 := (T1.out.set0 (.int .i64 kd)).below ((Below.refl (w1.setCell ⟨wr.heap.size, 0, none⟩ (.int .i64 kd)).heap.size (w1.setCell ⟨wr.heap.size, 0, none⟩ (.int .i64 kd))).alloc (Nat.le_refl _) (Obj.cells #[.int .i64 kd, .string tx, .int .i64 0] 32))
          have TA2 := ((T1.out.set0 (.int .i64 kd)).set1 (.string tx)).below ((Below.refl ((w1.setCell ⟨wr.heap.size, 0, none⟩ (.int .i64 kd)).setCell ⟨wr.heap.size, 1, none⟩ (.string tx)).heap.size ((w1.setCell ⟨wr.heap.size, 0, none⟩ (.int .i64 kd)).setCell ⟨wr.heap.size, 1, none⟩ (.string tx))).alloc (Nat.le_refl _) (Obj.cells #[.int .i64 kd, .string tx, .int .i64 0] 32))
          have TA3 := (((T1.out.set0 (.int .i64 kd)).set1 (.string tx)).set2 (.int .i64 0)).below ((Below.refl (((w1.setCell ⟨wr.heap.size, 0, none⟩ (.int .i64 kd)).setCell ⟨wr.heap.size, 1, none⟩ (.string tx)).setCell ⟨wr.heap.size, 2, none⟩ (.int .i64 0)).heap.size (((w1.setCell ⟨wr.heap.size, 0, none⟩ (.int .i64 kd)).setCell ⟨wr.heap.size, 1, none⟩ (.string tx)).setCell ⟨wr.heap.size, 2, none⟩ (.int .i64 0))).alloc (Nat.le_refl _) (Obj.cells #[.int .i64 kd, .string tx, .int .i64 0] 32))
          have c00 := TA0.cell0
          have f00 := TA0.frozen 0
          have c01 := TA0.cell1
          have f01 := TA0.frozen 1
          have c02 := TA0.cell2
          have f02 := TA0.frozen 2
          have c10 := TA1.cell0
          have f10 := TA1.frozen 0
          have c11 := TA1.cell1
          have f11 := TA1.frozen 1
          have c12 := TA1.cell2
          have f12 := TA1.frozen 2
          have c20 := TA2.cell0
          have f20 := TA2.frozen 0
          have c21 := TA2.cell1
          have f21 := TA2.frozen 1
          have c22 := TA2.cell2
          have f22 := TA2.frozen 2
          have c30 := TA3.cell0
          have f30 := TA3.frozen 0
          have c31 := TA3.cell1
          have f31 := TA3.frozen 1
          have c32 := TA3.cell2
          have f32 := TA3.frozen 2
          go_upto_region 13 with fail
          go_cut [] (fun wc => Hid (ThrAt wc wr.heap.size 32 (.int .i64 kd) (.string tx) (.int .i64 (k : Int))) ∧ Hid (RowK wc wq.heap.size (.slice ta T.length tc) (T.map Tk.tm)) ∧ Hid (Below wq.heap.size wq wc))
          case first =>
            go_wp2_with fail
            go_meet
            refine ⟨Lib.hid ?_, Lib.hid ?_, Lib.hid ?_⟩
            · exact ((((T1.out.set0 (.int .i64 kd)).set1 (.string tx)).set2 (.int .i64 0)).set2 (.int .i64 (k : Int))).below ((Below.refl _ _).alloc (Nat.le_refl _) _)
            · exact RowK.below (row_set (row_set (row_set (row_set K1.out HXG.out 0 _) HXG.out 1 _) HXG.out 2 _) HXG.out 2 _) ((Below.refl _ _).alloc (Nat.le_refl _) _)
            · exact ((((D1.out.setCell (p := ⟨wr.heap.size, 0, none⟩) hzz _).setCell (p := ⟨wr.heap.size, 1, none⟩) hzz _).setCell (p := ⟨wr.heap.size, 2, none⟩) hzz _).setCell (p := ⟨wr.heap.size, 2, none⟩) hzz _).alloc (by simp; exact D1.out.size) _
          case rest =>
            clear c00 f00 c01 f01 c02 f02 c10 f10 c11 f11 c12 f12 c20 f20 c21 f21 c22 f22 c30 f30 c31 f31 c32 f32 TA0 TA1 TA2 TA3
            obtain ⟨HTc, HKc, HDc⟩ := hcut
            have c0 := HTc.out.cell0
            have c1 := HTc.out.cell1
            have c2 := HTc.out.cell2
            have hox : wc.ownsRow wq.heap.size 32 3 (.slice ta T.length tc) T.length ((T.map Tk.tm).flatMap tkC) := by
              have h := HKc.out
              unfold RowK at h
              rw [List.length_map] at h
              exact h
            have HOX := Lib.hid (hox.alloc (Obj.cells #[.int .i64 kd, .string tx, .int .i64 (k : Int)] 32))
            have hzc := HDc.out.size
            have HDX := Lib.hid (HDc.out.alloc hzc (Obj.cells #[.int .i64 kd, .string tx, .int .i64 (k : Int)] 32))
            clear hox
            go_wp2_with (at_builtin; refine wpList_append_own _ rfl _ _ 23 rfl wq.heap.size 32 i0 (.agg #[.int .i64 0, .string ⟨#[]⟩, .int .i64 0]) 3 32 Tryz.underlying23 hi0 hz0 hz1 hzb rfl (by decide) _ _ _ rfl HOX.out ⟨wc.heap.size, 0, none⟩ 1 1 [.int .i64 kd, .string tx, .int .i64 (k : Int)] rfl rfl ?c1 ?c2 ?c3 ?c4 ?c5 ?_)
            case c1 => exact World.news_of_block (heap_alloc_new _ _)
            case c2 => intro u hu; simp at hu; rcases hu with rfl | rfl | rfl <;> rfl
            case c3 => unfold maxLen; omega
            case c4 => omega
            case c5 => simp; omega
            intro v' wd hown' hgrow _
            have hXl := HTc.out.lt
            have HTd := Lib.hid (HTc.out.of_block (w' := wd) ((hgrow.block wr.heap.size (by simp; omega) (fun g => Nat.lt_irrefl _ (HXG.out _ g.symm))).trans (Below.heap_alloc wc _ wr.heap.size hXl)))
            have HDd := Lib.hid (HDX.out.grown hgrow (by simp; omega) (fun g hg => (HOX.out.lt g hg).1))
            have HKd := Lib.hid (show RowK wd wq.heap.size v' ((T ++ [Tk.mk kd tl k]).map Tk.tm) from by
              unfold RowK
              rw [List.map_append, List.flatMap_append, List.length_append, List.length_map]
              exact (show wd.ownsRow wq.heap.size 32 3 v' (T.length + 1) (((T.map Tk.tm).flatMap tkC) ++ [.int .i64 kd, .string ⟨tl.toArray⟩, .int .i64 (k : Int)]) from by rw [← HTX.out]; exact hown'))
            clear hown' hgrow hXl c0 c1 c2 HOX HDX
            have c0 := HTd.out.cell0
            have c1 := HTd.out.cell1
            have c2 := HTd.out.cell2
            go_wp2_with fail
            go_fit (OP.out _)
            rintro e we ⟨rfl, hb⟩
            have HKe := Lib.hid (HKd.out.below hb)
            have HDe := Lib.hid (HDd.out.trans (hb.mono HDd.out.size))
            clear hb c0 c1 c2
            go_wp2_with fail
            go_fit (IG.out _)
            rintro e wf ⟨rfl, rfl⟩
            go_wp2_with fail
            exact ⟨⟨k2, o2, (T ++ [Tk.mk kd tl k]), HN.out.1, rfl, rfl, HN.out.2.1, HKe, HDe⟩, by have := HN.out.2.2; simp [RowKit.intOf]; omega⟩
        · rw [if_pos her] at hst
          have q2 : ((er : Int) != 0) = true := by rw [bne_iff_ne]; omega
          have HE := Lib.hid (show R = .err k er from by rw [hst]; rfl)
          clear hst hcons hc hc9 h10 htl htk hA htx htxd hrd her
          go_wp2_with fail
          go_fit (TK.out _)
          rintro e w1 ⟨rfl, hb⟩
          have D1 := Lib.hid (D0.out.trans (hb.mono D0.out.size))
          clear hb
          go_wp2_with fail
          go_ret3
          refine ⟨?_, ?_⟩
          · rw [HE.out]
            rfl
          · exact D1.out.alloc D1.out.size _
    · obtain rfl : k = s.size := by omega
      have hkk : ¬ (s.size : Int) < (s.size : Int) := by omega
      have HE := Lib.hid HR.out.done
      have HRD := Lib.hid hrd
      rw [List.length_map] at hv
      clear hlt HR hrd
      go_wp2_with fail
      go_ret3
      refine ⟨?_, HB.out⟩
      rw [HE.out]
      exact ⟨ta, tc, by rw [← hv]; rfl, HRD.out⟩
end Go.Proofs.YtoliiiijbdoliaaGreatDoor
