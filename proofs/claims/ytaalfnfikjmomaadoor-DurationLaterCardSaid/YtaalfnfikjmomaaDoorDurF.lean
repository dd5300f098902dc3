/- The document's unit within a text (duration). -/
import Derived.Test.YtaalfnfikjmomaaDoorDurC
import Derived.Deep.RegionWith
import Derived.Lib.Strings
import Derived.Deep.RegionHeld3
import Derived.Deep.DeepCutAuto
import Derived.Deep.CutBlock
import Derived.Deep.QuietTactic
namespace Go.Proofs.YtaalfnfikjmomaaDoor
open Go.RowKit Go.Lib

def unitI (l : List UInt8) : Int := match unitL l with
  | none => -1
  | some u => u
theorem keepB {W w1 w2 : World} (h : W.heap.size ≤ w1.heap.size ∧ Below W.heap.size W w1) (hb : Below w1.heap.size w1 w2) : W.heap.size ≤ w2.heap.size ∧ Below W.heap.size W w2 :=
  ⟨Nat.le_trans h.1 hb.size, h.2.trans (hb.mono h.1)⟩
theorem keepB_drew {W w1 : World} (h : W.heap.size ≤ w1.heap.size ∧ Below W.heap.size W w1) : W.heap.size ≤ w1.drew.heap.size ∧ Below W.heap.size W w1.drew := ⟨h.1, h.2.drew⟩
theorem drop_cons (s : ByteArray) (i : Nat) (h : i < s.size) : s.data.toList.drop i = s[i] :: s.data.toList.drop (i + 1) := List.drop_eq_getElem_cons (by rw [Array.length_toList]; exact h)

set_option maxHeartbeats 4000000 in
set_option maxRecDepth 100000 in
theorem refUnit_in (s : ByteArray) (i : Nat) (hs : s.size ≤ 140737488355328) (hi : i < s.size) (w : World) :
    Calls Tryd.prog 23 #[.string s, .int .i64 i] w fun e w' => e = .returned (.int .i64 (unitI (s.data.toList.drop i))) ∧ Below w.heap.size w w' := by
  have hd := drop_cons s i hi
  have hix : ∀ w, (Instr.index 9 (.string s) (.int .i64 (i : Int))).run Tryd.prog w = .ok (.int .u8 (s[i].toNat : Int)) w := by
    intro w
    rw [run_index_string w _ _ _ _ Tryd.underlying9, dif_pos ⟨by omega, by omega⟩]
    rfl
  have hsl := char_slice s i hi
  have i0 : (0 : Int) ≤ i ∧ (i : Int) + 1 ≤ 140737488355328 := by omega
  have i1 : (i : Int) < (s.size : Int) := by omega
  have hwr : IntKind.i64.wrap ((i : Int) + 1) = (i : Int) + 1 := by rw [IntKind.wrap_i64]; omega
  obtain ⟨c, hc⟩ : ∃ c, c = s[i] := ⟨_, rfl⟩
  rw [← hc] at hd hix hsl
  have hc9 := c.toNat_lt
  by_cases h2 : i + 1 < s.size ∧ c = 109 ∧ s.data.toList[i + 1]? = some 115
  · obtain ⟨h2, rfl, h3⟩ := h2
    have hix2 : ∀ w, (Instr.index 9 (.string s) (.int .i64 ((i : Int) + 1))).run Tryd.prog w = .ok (.int .u8 115) w := by
      intro w
      rw [run_index_string w _ _ _ _ Tryd.underlying9, dif_pos ⟨by omega, by omega⟩]
      congr 2
      have : s[i + 1] = 115 := by
        have h4 : s.data.toList[i + 1]? = some s[i + 1] := by rw [List.getElem?_eq_getElem (by rw [Array.length_toList]; exact h2)]; rfl
        rw [h4] at h3
        exact Option.some.inj h3
      have e : ((i : Int) + 1).toNat = i + 1 := by omega
      simp only [e, this]
      rfl
    have HV := Lib.hid (show unitI (s.data.toList.drop i) = 4 by
      have h4 : (s.data.toList.drop (i + 1)).head? = some 115 := by rw [List.head?_drop]; exact h3
      unfold unitI unitL
      rw [hd]
      simp [h4])
    have i2 : (i : Int) + 1 < (s.size : Int) := by omega
    clear hd hi h2 h3 hc9 hsl hs hc
    go_enter Tryd.func23, Tryd.ntmps23
    go_wp2_with fail
    go_ret
    exact ⟨by rw [HV.out]; rfl, Below.refl _ _⟩
  · have HX0 : (⟨#[c]⟩ : ByteArray).toList = [c] := by rw [Lib.toList_data]
    obtain ⟨x, hx⟩ : ∃ x : ByteArray, x = ⟨#[c]⟩ := ⟨_, rfl⟩
    have HX := Lib.hid (show x.toList = [c] by rw [hx, HX0])
    rw [← hx] at hsl
    obtain ⟨l, hl⟩ : ∃ l, l = s.data.toList.drop i := ⟨_, rfl⟩
    have hms : ¬ (l.head? = some 109 ∧ l.tail.head? = some 115) := by
      rw [hl, hd, List.head?_cons, List.tail_cons, List.head?_drop]
      rintro ⟨e1, e2⟩
      refine h2 ⟨?_, Option.some.inj e1, e2⟩
      have := (List.getElem?_eq_some_iff.1 e2).1
      rwa [Array.length_toList] at this
    have hl2 : l = c :: l.tail := by rw [hl, hd, List.tail_cons]
    have HU := Lib.hid (show (∀ k, k < 4 → nameU k = [c] → unitI l = k) ∧ ((∀ k, k < 4 → nameU k ≠ [c]) → unitI l = -1) by
      have hu : unitL l = if c = 100 then some 0 else if c = 104 then some 1 else if c = 109 then some 2 else if c = 115 then some 3 else none := by
        unfold unitL
        rw [if_neg hms, hl2]
        simp
      constructor
      · intro k hk e
        unfold unitI
        rw [hu]
        rcases (show k = 0 ∨ k = 1 ∨ k = 2 ∨ k = 3 by omega) with rfl | rfl | rfl | rfl <;> simp [nameU] at e <;> subst e <;> rfl
      · intro h
        have n0 : c ≠ 100 := fun e => h 0 (by omega) (by rw [e]; rfl)
        have n1 : c ≠ 104 := fun e => h 1 (by omega) (by rw [e]; rfl)
        have n2 : c ≠ 109 := fun e => h 2 (by omega) (by rw [e]; rfl)
        have n3 : c ≠ 115 := fun e => h 3 (by omega) (by rw [e]; rfl)
        unfold unitI
        rw [hu, if_neg n0, if_neg n1, if_neg n2, if_neg n3])
    rw [← hl]
    clear hms hl2 hx HX0 hd hl
    by_cases i2 : (i : Int) + 1 < (s.size : Int)
    · have hix2 : ∀ w, (Instr.index 9 (.string s) (.int .i64 ((i : Int) + 1))).run Tryd.prog w = .ok (.int .u8 ((s[i + 1]'(by omega)).toNat : Int)) w := by
        intro w
        rw [run_index_string w _ _ _ _ Tryd.underlying9, dif_pos ⟨by omega, by omega⟩]
        congr 3
      have hn2 : c = 109 → ¬ (s[i + 1]'(by omega)).toNat = 115 := by
        intro e1 e2
        refine h2 ⟨by omega, e1, ?_⟩
        rw [List.getElem?_eq_getElem (by rw [Array.length_toList]; show i + 1 < s.size; omega)]
        congr 1
        exact UInt8.toNat_inj.1 e2
      obtain ⟨b, hb⟩ : ∃ b, b = (s[i + 1]'(by omega)).toNat := ⟨_, rfl⟩
      rw [← hb] at hix2 hn2
      obtain ⟨a, ha⟩ : ∃ a, a = c.toNat := ⟨_, rfl⟩
      rw [← ha] at hix
      by_cases c1 : c = 109
      · have b2 : ((b : Int) == 115) = false := by rw [beq_eq_false_iff_ne]; have := hn2 c1; omega
        have a2 : ((a : Int) == 109) = true := by rw [beq_iff_eq, ha, c1]; rfl
        clear h2 hc9 hc hs hi hb ha hn2 c1
        go_enter Tryd.func23, Tryd.ntmps23
        go_wp2_with fail
        go_loopw [5] (fun s5 wr => ∃ j : Nat, j ≤ 4 ∧ s5 = .int .i64 (j : Int) ∧ (∀ k, k < j → nameU k ≠ [c]) ∧ Below w.heap.size w wr) (fun s5 _ => 4 - (RowKit.intOf s5).toNat)
        case atStart => exact ⟨0, by omega, rfl, fun k hk => by omega, Below.refl _ _⟩
        case round =>
          obtain ⟨j, hj, rfl, hne, hb⟩ := hrel
          have HN := Lib.hid hne
          have HB := Lib.hid (And.intro hb.size hb)
          have hs0 : w.heap.size ≤ wr.heap.size ∧ Below w.heap.size w wr := ⟨hb.size, hb⟩
          clear hne hb
          rcases (show j = 4 ∨ j = 0 ∨ j = 1 ∨ j = 2 ∨ j = 3 by omega) with rfl | rfl | rfl | rfl | rfl
          · have HV := Lib.hid (HU.out.2 (fun k hk => HN.out k (by omega)))
            clear hs0
            go_wp2_with fail
            go_ret
            exact ⟨by rw [HV.out]; rfl, HB.out.2⟩
          · have NM := Lib.hid (show ∀ w, Calls Tryd.prog 26 #[.int .i64 0] w fun e w' => e = .returned (.string ⟨#[100]⟩) ∧ Below w.heap.size w w' from fun w => refUnitName_any 0 (by omega) w)
            cases ht : (x.toList == [100])
            · have HN2 := Lib.hid (show ∀ k, k < 0 + 1 → nameU k ≠ [c] from fun m hm e => by
                by_cases hm2 : m = 0
                · subst hm2
                  have : (x.toList == [100]) = true := by rw [HX.out, ← e]; rfl
                  rw [ht] at this
                  cases this
                · exact HN.out m (by omega) e)
              go_wp2_with fail
              go_cut [41] (fun s41 wx => s41 = .bool false ∧ w.heap.size ≤ wx.heap.size ∧ Below w.heap.size w wx)
              case first =>
                go_region_held3 (fun w' => w.heap.size ≤ w'.heap.size ∧ Below w.heap.size w w') (first | assumption | exact keepB_drew hs0 | exact keepB (keepB_drew hs0) (by assumption)) (first
                  | (go_at_call 26; go_fit (NM.out _); rintro e w2 ⟨rfl, hb2⟩)
                  | fail)
                go_wp2_with fail
                go_meet
                refine ⟨rfl, ?_⟩
                assumption
              case rest =>
                obtain ⟨rfl, hb2⟩ := hcut
                have B2 := Lib.hid hb2
                clear hb2 hs0
                go_wp2_with fail
                go_roundw
                case rel => exact ⟨0 + 1, by omega, by go_num, HN2.out, B2.out.2⟩
                case measure => simp [RowKit.intOf]
            · have HV := Lib.hid (HU.out.1 0 (by omega) (by
                have := HX.out
                rw [beq_iff_eq.1 ht] at this
                exact this))
              go_wp2_with fail
              go_cut [41] (fun s41 wx => s41 = .bool true ∧ w.heap.size ≤ wx.heap.size ∧ Below w.heap.size w wx)
              case first =>
                go_region_held3 (fun w' => w.heap.size ≤ w'.heap.size ∧ Below w.heap.size w w') (first | assumption | exact keepB_drew hs0 | exact keepB (keepB_drew hs0) (by assumption)) (first
                  | (go_at_call 26; go_fit (NM.out _); rintro e w2 ⟨rfl, hb2⟩)
                  | fail)
                go_wp2_with fail
                go_meet
                refine ⟨rfl, ?_⟩
                assumption
              case rest =>
                obtain ⟨rfl, hb2⟩ := hcut
                have B2 := Lib.hid hb2
                clear hb2 hs0
                go_wp2_with fail
                go_ret
                exact ⟨by rw [HV.out]; rfl, B2.out.2⟩
          · have NM := Lib.hid (show ∀ w, Calls Tryd.prog 26 #[.int .i64 1] w fun e w' => e = .returned (.string ⟨#[104]⟩) ∧ Below w.heap.size w w' from fun w => refUnitName_any 1 (by omega) w)
            cases ht : (x.toList == [104])
            · have HN2 := Lib.hid (show ∀ k, k < 1 + 1 → nameU k ≠ [c] from fun m hm e => by
                by_cases hm2 : m = 1
                · subst hm2
                  have : (x.toList == [104]) = true := by rw [HX.out, ← e]; rfl
                  rw [ht] at this
                  cases this
                · exact HN.out m (by omega) e)
              go_wp2_with fail
              go_cut [41] (fun s41 wx => s41 = .bool false ∧ w.heap.size ≤ wx.heap.size ∧ Below w.heap.size w wx)
              case first =>
                go_region_held3 (fun w' => w.heap.size ≤ w'.heap.size ∧ Below w.heap.size w w') (first | assumption | exact keepB_drew hs0 | exact keepB (keepB_drew hs0) (by assumption)) (first
                  | (go_at_call 26; go_fit (NM.out _); rintro e w2 ⟨rfl, hb2⟩)
                  | fail)
                go_wp2_with fail
                go_meet
                refine ⟨rfl, ?_⟩
                assumption
              case rest =>
                obtain ⟨rfl, hb2⟩ := hcut
                have B2 := Lib.hid hb2
                clear hb2 hs0
                go_wp2_with fail
                go_roundw
                case rel => exact ⟨1 + 1, by omega, by go_num, HN2.out, B2.out.2⟩
                case measure => simp [RowKit.intOf]
            · have HV := Lib.hid (HU.out.1 1 (by omega) (by
                have := HX.out
                rw [beq_iff_eq.1 ht] at this
                exact this))
              go_wp2_with fail
              go_cut [41] (fun s41 wx => s41 = .bool true ∧ w.heap.size ≤ wx.heap.size ∧ Below w.heap.size w wx)
              case first =>
                go_region_held3 (fun w' => w.heap.size ≤ w'.heap.size ∧ Below w.heap.size w w') (first | assumption | exact keepB_drew hs0 | exact keepB (keepB_drew hs0) (by assumption)) (first
                  | (go_at_call 26; go_fit (NM.out _); rintro e w2 ⟨rfl, hb2⟩)
                  | fail)
                go_wp2_with fail
                go_meet
                refine ⟨rfl, ?_⟩
                assumption
              case rest =>
                obtain ⟨rfl, hb2⟩ := hcut
                have B2 := Lib.hid hb2
                clear hb2 hs0
                go_wp2_with fail
                go_ret
                exact ⟨by rw [HV.out]; rfl, B2.out.2⟩
          · have NM := Lib.hid (show ∀ w, Calls Tryd.prog 26 #[.int .i64 2] w fun e w' => e = .returned (.string ⟨#[109]⟩) ∧ Below w.heap.size w w' from fun w => refUnitName_any 2 (by omega) w)
            cases ht : (x.toList == [109])
            · have HN2 := Lib.hid (show ∀ k, k < 2 + 1 → nameU k ≠ [c] from fun m hm e => by
                by_cases hm2 : m = 2
                · subst hm2
                  have : (x.toList == [109]) = true := by rw [HX.out, ← e]; rfl
                  rw [ht] at this
                  cases this
                · exact HN.out m (by omega) e)
              go_wp2_with fail
              go_cut [41] (fun s41 wx => s41 = .bool false ∧ w.heap.size ≤ wx.heap.size ∧ Below w.heap.size w wx)
              case first =>
                go_region_held3 (fun w' => w.heap.size ≤ w'.heap.size ∧ Below w.heap.size w w') (first | assumption | exact keepB_drew hs0 | exact keepB (keepB_drew hs0) (by assumption)) (first
                  | (go_at_call 26; go_fit (NM.out _); rintro e w2 ⟨rfl, hb2⟩)
                  | fail)
                go_wp2_with fail
                go_meet
                refine ⟨rfl, ?_⟩
                assumption
              case rest =>
                obtain ⟨rfl, hb2⟩ := hcut
                have B2 := Lib.hid hb2
                clear hb2 hs0
                go_wp2_with fail
                go_roundw
                case rel => exact ⟨2 + 1, by omega, by go_num, HN2.out, B2.out.2⟩
                case measure => simp [RowKit.intOf]
            · have HV := Lib.hid (HU.out.1 2 (by omega) (by
                have := HX.out
                rw [beq_iff_eq.1 ht] at this
                exact this))
              go_wp2_with fail
              go_cut [41] (fun s41 wx => s41 = .bool true ∧ w.heap.size ≤ wx.heap.size ∧ Below w.heap.size w wx)
              case first =>
                go_region_held3 (fun w' => w.heap.size ≤ w'.heap.size ∧ Below w.heap.size w w') (first | assumption | exact keepB_drew hs0 | exact keepB (keepB_drew hs0) (by assumption)) (first
                  | (go_at_call 26; go_fit (NM.out _); rintro e w2 ⟨rfl, hb2⟩)
                  | fail)
                go_wp2_with fail
                go_meet
                refine ⟨rfl, ?_⟩
                assumption
              case rest =>
                obtain ⟨rfl, hb2⟩ := hcut
                have B2 := Lib.hid hb2
                clear hb2 hs0
                go_wp2_with fail
                go_ret
                exact ⟨by rw [HV.out]; rfl, B2.out.2⟩
          · have NM := Lib.hid (show ∀ w, Calls Tryd.prog 26 #[.int .i64 3] w fun e w' => e = .returned (.string ⟨#[115]⟩) ∧ Below w.heap.size w w' from fun w => refUnitName_any 3 (by omega) w)
            cases ht : (x.toList == [115])
            · have HN2 := Lib.hid (show ∀ k, k < 3 + 1 → nameU k ≠ [c] from fun m hm e => by
                by_cases hm2 : m = 3
                · subst hm2
                  have : (x.toList == [115]) = true := by rw [HX.out, ← e]; rfl
                  rw [ht] at this
                  cases this
                · exact HN.out m (by omega) e)
              go_wp2_with fail
              go_cut [41] (fun s41 wx => s41 = .bool false ∧ w.heap.size ≤ wx.heap.size ∧ Below w.heap.size w wx)
              case first =>
                go_region_held3 (fun w' => w.heap.size ≤ w'.heap.size ∧ Below w.heap.size w w') (first | assumption | exact keepB_drew hs0 | exact keepB (keepB_drew hs0) (by assumption)) (first
                  | (go_at_call 26; go_fit (NM.out _); rintro e w2 ⟨rfl, hb2⟩)
                  | fail)
                go_wp2_with fail
                go_meet
                refine ⟨rfl, ?_⟩
                assumption
              case rest =>
                obtain ⟨rfl, hb2⟩ := hcut
                have B2 := Lib.hid hb2
                clear hb2 hs0
                go_wp2_with fail
                go_roundw
                case rel => exact ⟨3 + 1, by omega, by go_num, HN2.out, B2.out.2⟩
                case measure => simp [RowKit.intOf]
            · have HV := Lib.hid (HU.out.1 3 (by omega) (by
                have := HX.out
                rw [beq_iff_eq.1 ht] at this
                exact this))
              go_wp2_with fail
              go_cut [41] (fun s41 wx => s41 = .bool true ∧ w.heap.size ≤ wx.heap.size ∧ Below w.heap.size w wx)
              case first =>
                go_region_held3 (fun w' => w.heap.size ≤ w'.heap.size ∧ Below w.heap.size w w') (first | assumption | exact keepB_drew hs0 | exact keepB (keepB_drew hs0) (by assumption)) (first
                  | (go_at_call 26; go_fit (NM.out _); rintro e w2 ⟨rfl, hb2⟩)
                  | fail)
                go_wp2_with fail
                go_meet
                refine ⟨rfl, ?_⟩
                assumption
              case rest =>
                obtain ⟨rfl, hb2⟩ := hcut
                have B2 := Lib.hid hb2
                clear hb2 hs0
                go_wp2_with fail
                go_ret
                exact ⟨by rw [HV.out]; rfl, B2.out.2⟩
      · have a2 : ((a : Int) == 109) = false := by
          rw [beq_eq_false_iff_ne]
          intro e
          exact c1 (UInt8.toNat_inj.1 (by rw [← ha]; show a = 109; omega))
        clear h2 hc9 hc hs hi hb ha hn2 c1 hix2
        go_enter Tryd.func23, Tryd.ntmps23
        go_wp2_with fail
        go_loopw [5] (fun s5 wr => ∃ j : Nat, j ≤ 4 ∧ s5 = .int .i64 (j : Int) ∧ (∀ k, k < j → nameU k ≠ [c]) ∧ Below w.heap.size w wr) (fun s5 _ => 4 - (RowKit.intOf s5).toNat)
        case atStart => exact ⟨0, by omega, rfl, fun k hk => by omega, Below.refl _ _⟩
        case round =>
          obtain ⟨j, hj, rfl, hne, hb⟩ := hrel
          have HN := Lib.hid hne
          have HB := Lib.hid (And.intro hb.size hb)
          have hs0 : w.heap.size ≤ wr.heap.size ∧ Below w.heap.size w wr := ⟨hb.size, hb⟩
          clear hne hb
          rcases (show j = 4 ∨ j = 0 ∨ j = 1 ∨ j = 2 ∨ j = 3 by omega) with rfl | rfl | rfl | rfl | rfl
          · have HV := Lib.hid (HU.out.2 (fun k hk => HN.out k (by omega)))
            clear hs0
            go_wp2_with fail
            go_ret
            exact ⟨by rw [HV.out]; rfl, HB.out.2⟩
          · have NM := Lib.hid (show ∀ w, Calls Tryd.prog 26 #[.int .i64 0] w fun e w' => e = .returned (.string ⟨#[100]⟩) ∧ Below w.heap.size w w' from fun w => refUnitName_any 0 (by omega) w)
            cases ht : (x.toList == [100])
            · have HN2 := Lib.hid (show ∀ k, k < 0 + 1 → nameU k ≠ [c] from fun m hm e => by
                by_cases hm2 : m = 0
                · subst hm2
                  have : (x.toList == [100]) = true := by rw [HX.out, ← e]; rfl
                  rw [ht] at this
                  cases this
                · exact HN.out m (by omega) e)
              go_wp2_with fail
              go_cut [41] (fun s41 wx => s41 = .bool false ∧ w.heap.size ≤ wx.heap.size ∧ Below w.heap.size w wx)
              case first =>
                go_region_held3 (fun w' => w.heap.size ≤ w'.heap.size ∧ Below w.heap.size w w') (first | assumption | exact keepB_drew hs0 | exact keepB (keepB_drew hs0) (by assumption)) (first
                  | (go_at_call 26; go_fit (NM.out _); rintro e w2 ⟨rfl, hb2⟩)
                  | fail)
                go_wp2_with fail
                go_meet
                refine ⟨rfl, ?_⟩
                assumption
              case rest =>
                obtain ⟨rfl, hb2⟩ := hcut
                have B2 := Lib.hid hb2
                clear hb2 hs0
                go_wp2_with fail
                go_roundw
                case rel => exact ⟨0 + 1, by omega, by go_num, HN2.out, B2.out.2⟩
                case measure => simp [RowKit.intOf]
            · have HV := Lib.hid (HU.out.1 0 (by omega) (by
                have := HX.out
                rw [beq_iff_eq.1 ht] at this
                exact this))
              go_wp2_with fail
              go_cut [41] (fun s41 wx => s41 = .bool true ∧ w.heap.size ≤ wx.heap.size ∧ Below w.heap.size w wx)
              case first =>
                go_region_held3 (fun w' => w.heap.size ≤ w'.heap.size ∧ Below w.heap.size w w') (first | assumption | exact keepB_drew hs0 | exact keepB (keepB_drew hs0) (by assumption)) (first
                  | (go_at_call 26; go_fit (NM.out _); rintro e w2 ⟨rfl, hb2⟩)
                  | fail)
                go_wp2_with fail
                go_meet
                refine ⟨rfl, ?_⟩
                assumption
              case rest =>
                obtain ⟨rfl, hb2⟩ := hcut
                have B2 := Lib.hid hb2
                clear hb2 hs0
                go_wp2_with fail
                go_ret
                exact ⟨by rw [HV.out]; rfl, B2.out.2⟩
          · have NM := Lib.hid (show ∀ w, Calls Tryd.prog 26 #[.int .i64 1] w fun e w' => e = .returned (.string ⟨#[104]⟩) ∧ Below w.heap.size w w' from fun w => refUnitName_any 1 (by omega) w)
            cases ht : (x.toList == [104])
            · have HN2 := Lib.hid (show ∀ k, k < 1 + 1 → nameU k ≠ [c] from fun m hm e => by
                by_cases hm2 : m = 1
                · subst hm2
                  have : (x.toList == [104]) = true := by rw [HX.out, ← e]; rfl
                  rw [ht] at this
                  cases this
                · exact HN.out m (by omega) e)
              go_wp2_with fail
              go_cut [41] (fun s41 wx => s41 = .bool false ∧ w.heap.size ≤ wx.heap.size ∧ Below w.heap.size w wx)
              case first =>
                go_region_held3 (fun w' => w.heap.size ≤ w'.heap.size ∧ Below w.heap.size w w') (first | assumption | exact keepB_drew hs0 | exact keepB (keepB_drew hs0) (by assumption)) (first
                  | (go_at_call 26; go_fit (NM.out _); rintro e w2 ⟨rfl, hb2⟩)
                  | fail)
                go_wp2_with fail
                go_meet
                refine ⟨rfl, ?_⟩
                assumption
              case rest =>
                obtain ⟨rfl, hb2⟩ := hcut
                have B2 := Lib.hid hb2
                clear hb2 hs0
                go_wp2_with fail
                go_roundw
                case rel => exact ⟨1 + 1, by omega, by go_num, HN2.out, B2.out.2⟩
                case measure => simp [RowKit.intOf]
            · have HV := Lib.hid (HU.out.1 1 (by omega) (by
                have := HX.out
                rw [beq_iff_eq.1 ht] at this
                exact this))
              go_wp2_with fail
              go_cut [41] (fun s41 wx => s41 = .bool true ∧ w.heap.size ≤ wx.heap.size ∧ Below w.heap.size w wx)
              case first =>
                go_region_held3 (fun w' => w.heap.size ≤ w'.heap.size ∧ Below w.heap.size w w') (first | assumption | exact keepB_drew hs0 | exact keepB (keepB_drew hs0) (by assumption)) (first
                  | (go_at_call 26; go_fit (NM.out _); rintro e w2 ⟨rfl, hb2⟩)
                  | fail)
                go_wp2_with fail
                go_meet
                refine ⟨rfl, ?_⟩
                assumption
              case rest =>
                obtain ⟨rfl, hb2⟩ := hcut
                have B2 := Lib.hid hb2
                clear hb2 hs0
                go_wp2_with fail
                go_ret
                exact ⟨by rw [HV.out]; rfl, B2.out.2⟩
          · have NM := Lib.hid (show ∀ w, Calls Tryd.prog 26 #[.int .i64 2] w fun e w' => e = .returned (.string ⟨#[109]⟩) ∧ Below w.heap.size w w' from fun w => refUnitName_any 2 (by omega) w)
            cases ht : (x.toList == [109])
            · have HN2 := Lib.hid (show ∀ k, k < 2 + 1 → nameU k ≠ [c] from fun m hm e => by
                by_cases hm2 : m = 2
                · subst hm2
                  have : (x.toList == [109]) = true := by rw [HX.out, ← e]; rfl
                  rw [ht] at this
                  cases this
                · exact HN.out m (by omega) e)
              go_wp2_with fail
              go_cut [41] (fun s41 wx => s41 = .bool false ∧ w.heap.size ≤ wx.heap.size ∧ Below w.heap.size w wx)
              case first =>
                go_region_held3 (fun w' => w.heap.size ≤ w'.heap.size ∧ Below w.heap.size w w') (first | assumption | exact keepB_drew hs0 | exact keepB (keepB_drew hs0) (by assumption)) (first
                  | (go_at_call 26; go_fit (NM.out _); rintro e w2 ⟨rfl, hb2⟩)
                  | fail)
                go_wp2_with fail
                go_meet
                refine ⟨rfl, ?_⟩
                assumption
              case rest =>
                obtain ⟨rfl, hb2⟩ := hcut
                have B2 := Lib.hid hb2
                clear hb2 hs0
                go_wp2_with fail
                go_roundw
                case rel => exact ⟨2 + 1, by omega, by go_num, HN2.out, B2.out.2⟩
                case measure => simp [RowKit.intOf]
            · have HV := Lib.hid (HU.out.1 2 (by omega) (by
                have := HX.out
                rw [beq_iff_eq.1 ht] at this
                exact this))
              go_wp2_with fail
              go_cut [41] (fun s41 wx => s41 = .bool true ∧ w.heap.size ≤ wx.heap.size ∧ Below w.heap.size w wx)
              case first =>
                go_region_held3 (fun w' => w.heap.size ≤ w'.heap.size ∧ Below w.heap.size w w') (first | assumption | exact keepB_drew hs0 | exact keepB (keepB_drew hs0) (by assumption)) (first
                  | (go_at_call 26; go_fit (NM.out _); rintro e w2 ⟨rfl, hb2⟩)
                  | fail)
                go_wp2_with fail
                go_meet
                refine ⟨rfl, ?_⟩
                assumption
              case rest =>
                obtain ⟨rfl, hb2⟩ := hcut
                have B2 := Lib.hid hb2
                clear hb2 hs0
                go_wp2_with fail
                go_ret
                exact ⟨by rw [HV.out]; rfl, B2.out.2⟩
          · have NM := Lib.hid (show ∀ w, Calls Tryd.prog 26 #[.int .i64 3] w fun e w' => e = .returned (.string ⟨#[115]⟩) ∧ Below w.heap.size w w' from fun w => refUnitName_any 3 (by omega) w)
            cases ht : (x.toList == [115])
            · have HN2 := Lib.hid (show ∀ k, k < 3 + 1 → nameU k ≠ [c] from fun m hm e => by
                by_cases hm2 : m = 3
                · subst hm2
                  have : (x.toList == [115]) = true := by rw [HX.out, ← e]; rfl
                  rw [ht] at this
                  cases this
                · exact HN.out m (by omega) e)
              go_wp2_with fail
              go_cut [41] (fun s41 wx => s41 = .bool false ∧ w.heap.size ≤ wx.heap.size ∧ Below w.heap.size w wx)
              case first =>
                go_region_held3 (fun w' => w.heap.size ≤ w'.heap.size ∧ Below w.heap.size w w') (first | assumption | exact keepB_drew hs0 | exact keepB (keepB_drew hs0) (by assumption)) (first
                  | (go_at_call 26; go_fit (NM.out _); rintro e w2 ⟨rfl, hb2⟩)
                  | fail)
                go_wp2_with fail
                go_meet
                refine ⟨rfl, ?_⟩
                assumption
              case rest =>
                obtain ⟨rfl, hb2⟩ := hcut
                have B2 := Lib.hid hb2
                clear hb2 hs0
                go_wp2_with fail
                go_roundw
                case rel => exact ⟨3 + 1, by omega, by go_num, HN2.out, B2.out.2⟩
                case measure => simp [RowKit.intOf]
            · have HV := Lib.hid (HU.out.1 3 (by omega) (by
                have := HX.out
                rw [beq_iff_eq.1 ht] at this
                exact this))
              go_wp2_with fail
              go_cut [41] (fun s41 wx => s41 = .bool true ∧ w.heap.size ≤ wx.heap.size ∧ Below w.heap.size w wx)
              case first =>
                go_region_held3 (fun w' => w.heap.size ≤ w'.heap.size ∧ Below w.heap.size w w') (first | assumption | exact keepB_drew hs0 | exact keepB (keepB_drew hs0) (by assumption)) (first
                  | (go_at_call 26; go_fit (NM.out _); rintro e w2 ⟨rfl, hb2⟩)
                  | fail)
                go_wp2_with fail
                go_meet
                refine ⟨rfl, ?_⟩
                assumption
              case rest =>
                obtain ⟨rfl, hb2⟩ := hcut
                have B2 := Lib.hid hb2
                clear hb2 hs0
                go_wp2_with fail
                go_ret
                exact ⟨by rw [HV.out]; rfl, B2.out.2⟩
    · clear h2 hix hc9 hc hs hi
      go_enter Tryd.func23, Tryd.ntmps23
      go_wp2_with fail
      go_loopw [5] (fun s5 wr => ∃ j : Nat, j ≤ 4 ∧ s5 = .int .i64 (j : Int) ∧ (∀ k, k < j → nameU k ≠ [c]) ∧ Below w.heap.size w wr) (fun s5 _ => 4 - (RowKit.intOf s5).toNat)
      case atStart => exact ⟨0, by omega, rfl, fun k hk => by omega, Below.refl _ _⟩
      case round =>
        obtain ⟨j, hj, rfl, hne, hb⟩ := hrel
        have HN := Lib.hid hne
        have HB := Lib.hid (And.intro hb.size hb)
        have hs0 : w.heap.size ≤ wr.heap.size ∧ Below w.heap.size w wr := ⟨hb.size, hb⟩
        clear hne hb
        rcases (show j = 4 ∨ j = 0 ∨ j = 1 ∨ j = 2 ∨ j = 3 by omega) with rfl | rfl | rfl | rfl | rfl
        · have HV := Lib.hid (HU.out.2 (fun k hk => HN.out k (by omega)))
          clear hs0
          go_wp2_with fail
          go_ret
          exact ⟨by rw [HV.out]; rfl, HB.out.2⟩
        · have NM := Lib.hid (show ∀ w, Calls Tryd.prog 26 #[.int .i64 0] w fun e w' => e = .returned (.string ⟨#[100]⟩) ∧ Below w.heap.size w w' from fun w => refUnitName_any 0 (by omega) w)
          cases ht : (x.toList == [100])
          · have HN2 := Lib.hid (show ∀ k, k < 0 + 1 → nameU k ≠ [c] from fun m hm e => by
              by_cases hm2 : m = 0
              · subst hm2
                have : (x.toList == [100]) = true := by rw [HX.out, ← e]; rfl
                rw [ht] at this
                cases this
              · exact HN.out m (by omega) e)
            go_wp2_with fail
            go_cut [41] (fun s41 wx => s41 = .bool false ∧ w.heap.size ≤ wx.heap.size ∧ Below w.heap.size w wx)
            case first =>
              go_region_held3 (fun w' => w.heap.size ≤ w'.heap.size ∧ Below w.heap.size w w') (first | assumption | exact keepB_drew hs0 | exact keepB (keepB_drew hs0) (by assumption)) (first
                | (go_at_call 26; go_fit (NM.out _); rintro e w2 ⟨rfl, hb2⟩)
                | fail)
              go_wp2_with fail
              go_meet
              refine ⟨rfl, ?_⟩
              assumption
            case rest =>
              obtain ⟨rfl, hb2⟩ := hcut
              have B2 := Lib.hid hb2
              clear hb2 hs0
              go_wp2_with fail
              go_roundw
              case rel => exact ⟨0 + 1, by omega, by go_num, HN2.out, B2.out.2⟩
              case measure => simp [RowKit.intOf]
          · have HV := Lib.hid (HU.out.1 0 (by omega) (by
              have := HX.out
              rw [beq_iff_eq.1 ht] at this
              exact this))
            go_wp2_with fail
            go_cut [41] (fun s41 wx => s41 = .bool true ∧ w.heap.size ≤ wx.heap.size ∧ Below w.heap.size w wx)
            case first =>
              go_region_held3 (fun w' => w.heap.size ≤ w'.heap.size ∧ Below w.heap.size w w') (first | assumption | exact keepB_drew hs0 | exact keepB (keepB_drew hs0) (by assumption)) (first
                | (go_at_call 26; go_fit (NM.out _); rintro e w2 ⟨rfl, hb2⟩)
                | fail)
              go_wp2_with fail
              go_meet
              refine ⟨rfl, ?_⟩
              assumption
            case rest =>
              obtain ⟨rfl, hb2⟩ := hcut
              have B2 := Lib.hid hb2
              clear hb2 hs0
              go_wp2_with fail
              go_ret
              exact ⟨by rw [HV.out]; rfl, B2.out.2⟩
        · have NM := Lib.hid (show ∀ w, Calls Tryd.prog 26 #[.int .i64 1] w fun e w' => e = .returned (.string ⟨#[104]⟩) ∧ Below w.heap.size w w' from fun w => refUnitName_any 1 (by omega) w)
          cases ht : (x.toList == [104])
          · have HN2 := Lib.hid (show ∀ k, k < 1 + 1 → nameU k ≠ [c] from fun m hm e => by
              by_cases hm2 : m = 1
              · subst hm2
                have : (x.toList == [104]) = true := by rw [HX.out, ← e]; rfl
                rw [ht] at this
                cases this
              · exact HN.out m (by omega) e)
            go_wp2_with fail
            go_cut [41] (fun s41 wx => s41 = .bool false ∧ w.heap.size ≤ wx.heap.size ∧ Below w.heap.size w wx)
            case first =>
              go_region_held3 (fun w' => w.heap.size ≤ w'.heap.size ∧ Below w.heap.size w w') (first | assumption | exact keepB_drew hs0 | exact keepB (keepB_drew hs0) (by assumption)) (first
                | (go_at_call 26; go_fit (NM.out _); rintro e w2 ⟨rfl, hb2⟩)
                | fail)
              go_wp2_with fail
              go_meet
              refine ⟨rfl, ?_⟩
              assumption
            case rest =>
              obtain ⟨rfl, hb2⟩ := hcut
              have B2 := Lib.hid hb2
              clear hb2 hs0
              go_wp2_with fail
              go_roundw
              case rel => exact ⟨1 + 1, by omega, by go_num, HN2.out, B2.out.2⟩
              case measure => simp [RowKit.intOf]
          · have HV := Lib.hid (HU.out.1 1 (by omega) (by
              have := HX.out
              rw [beq_iff_eq.1 ht] at this
              exact this))
            go_wp2_with fail
            go_cut [41] (fun s41 wx => s41 = .bool true ∧ w.heap.size ≤ wx.heap.size ∧ Below w.heap.size w wx)
            case first =>
              go_region_held3 (fun w' => w.heap.size ≤ w'.heap.size ∧ Below w.heap.size w w') (first | assumption | exact keepB_drew hs0 | exact keepB (keepB_drew hs0) (by assumption)) (first
                | (go_at_call 26; go_fit (NM.out _); rintro e w2 ⟨rfl, hb2⟩)
                | fail)
              go_wp2_with fail
              go_meet
              refine ⟨rfl, ?_⟩
              assumption
            case rest =>
              obtain ⟨rfl, hb2⟩ := hcut
              have B2 := Lib.hid hb2
              clear hb2 hs0
              go_wp2_with fail
              go_ret
              exact ⟨by rw [HV.out]; rfl, B2.out.2⟩
        · have NM := Lib.hid (show ∀ w, Calls Tryd.prog 26 #[.int .i64 2] w fun e w' => e = .returned (.string ⟨#[109]⟩) ∧ Below w.heap.size w w' from fun w => refUnitName_any 2 (by omega) w)
          cases ht : (x.toList == [109])
          · have HN2 := Lib.hid (show ∀ k, k < 2 + 1 → nameU k ≠ [c] from fun m hm e => by
              by_cases hm2 : m = 2
              · subst hm2
                have : (x.toList == [109]) = true := by rw [HX.out, ← e]; rfl
                rw [ht] at this
                cases this
              · exact HN.out m (by omega) e)
            go_wp2_with fail
            go_cut [41] (fun s41 wx => s41 = .bool false ∧ w.heap.size ≤ wx.heap.size ∧ Below w.heap.size w wx)
            case first =>
              go_region_held3 (fun w' => w.heap.size ≤ w'.heap.size ∧ Below w.heap.size w w') (first | assumption | exact keepB_drew hs0 | exact keepB (keepB_drew hs0) (by assumption)) (first
                | (go_at_call 26; go_fit (NM.out _); rintro e w2 ⟨rfl, hb2⟩)
                | fail)
              go_wp2_with fail
              go_meet
              refine ⟨rfl, ?_⟩
              assumption
            case rest =>
              obtain ⟨rfl, hb2⟩ := hcut
              have B2 := Lib.hid hb2
              clear hb2 hs0
              go_wp2_with fail
              go_roundw
              case rel => exact ⟨2 + 1, by omega, by go_num, HN2.out, B2.out.2⟩
              case measure => simp [RowKit.intOf]
          · have HV := Lib.hid (HU.out.1 2 (by omega) (by
              have := HX.out
              rw [beq_iff_eq.1 ht] at this
              exact this))
            go_wp2_with fail
            go_cut [41] (fun s41 wx => s41 = .bool true ∧ w.heap.size ≤ wx.heap.size ∧ Below w.heap.size w wx)
            case first =>
              go_region_held3 (fun w' => w.heap.size ≤ w'.heap.size ∧ Below w.heap.size w w') (first | assumption | exact keepB_drew hs0 | exact keepB (keepB_drew hs0) (by assumption)) (first
                | (go_at_call 26; go_fit (NM.out _); rintro e w2 ⟨rfl, hb2⟩)
                | fail)
              go_wp2_with fail
              go_meet
              refine ⟨rfl, ?_⟩
              assumption
            case rest =>
              obtain ⟨rfl, hb2⟩ := hcut
              have B2 := Lib.hid hb2
              clear hb2 hs0
              go_wp2_with fail
              go_ret
              exact ⟨by rw [HV.out]; rfl, B2.out.2⟩
        · have NM := Lib.hid (show ∀ w, Calls Tryd.prog 26 #[.int .i64 3] w fun e w' => e = .returned (.string ⟨#[115]⟩) ∧ Below w.heap.size w w' from fun w => refUnitName_any 3 (by omega) w)
          cases ht : (x.toList == [115])
          · have HN2 := Lib.hid (show ∀ k, k < 3 + 1 → nameU k ≠ [c] from fun m hm e => by
              by_cases hm2 : m = 3
              · subst hm2
                have : (x.toList == [115]) = true := by rw [HX.out, ← e]; rfl
                rw [ht] at this
                cases this
              · exact HN.out m (by omega) e)
            go_wp2_with fail
            go_cut [41] (fun s41 wx => s41 = .bool false ∧ w.heap.size ≤ wx.heap.size ∧ Below w.heap.size w wx)
            case first =>
              go_region_held3 (fun w' => w.heap.size ≤ w'.heap.size ∧ Below w.heap.size w w') (first | assumption | exact keepB_drew hs0 | exact keepB (keepB_drew hs0) (by assumption)) (first
                | (go_at_call 26; go_fit (NM.out _); rintro e w2 ⟨rfl, hb2⟩)
                | fail)
              go_wp2_with fail
              go_meet
              refine ⟨rfl, ?_⟩
              assumption
            case rest =>
              obtain ⟨rfl, hb2⟩ := hcut
              have B2 := Lib.hid hb2
              clear hb2 hs0
              go_wp2_with fail
              go_roundw
              case rel => exact ⟨3 + 1, by omega, by go_num, HN2.out, B2.out.2⟩
              case measure => simp [RowKit.intOf]
          · have HV := Lib.hid (HU.out.1 3 (by omega) (by
              have := HX.out
              rw [beq_iff_eq.1 ht] at this
              exact this))
            go_wp2_with fail
            go_cut [41] (fun s41 wx => s41 = .bool true ∧ w.heap.size ≤ wx.heap.size ∧ Below w.heap.size w wx)
            case first =>
              go_region_held3 (fun w' => w.heap.size ≤ w'.heap.size ∧ Below w.heap.size w w') (first | assumption | exact keepB_drew hs0 | exact keepB (keepB_drew hs0) (by assumption)) (first
                | (go_at_call 26; go_fit (NM.out _); rintro e w2 ⟨rfl, hb2⟩)
                | fail)
              go_wp2_with fail
              go_meet
              refine ⟨rfl, ?_⟩
              assumption
            case rest =>
              obtain ⟨rfl, hb2⟩ := hcut
              have B2 := Lib.hid hb2
              clear hb2 hs0
              go_wp2_with fail
              go_ret
              exact ⟨by rw [HV.out]; rfl, B2.out.2⟩
end Go.Proofs.YtaalfnfikjmomaaDoor
