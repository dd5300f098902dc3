/- Contract of the document's operator (pipelineref09). -/
import Derived.Test.YtoliiiijbdoliaaGreatDoorRlxC
namespace Go.Proofs.YtoliiiijbdoliaaGreatDoor
open Go.RowKit Go.Lib
set_option linter.unusedVariables false
set_option linter.unusedSimpArgs false

theorem sub_mid (s : ByteArray) (a b : Int) (i j : Nat) (ha : a = (i : Int)) (hb : b = (j : Int)) (h1 : i ≤ j) (h2 : j ≤ s.size) (w : World) : (Instr.sliceAt 9 (.string s) (some (.int .i64 a)) (some (.int .i64 b)) none).run Tryz.prog w = .ok (.string ⟨((s.data.toList.take j).drop i).toArray⟩) w := by
  subst ha hb
  rw [run_sliceAt_string _ _ _ _ _ _ Tryz.underlying9, run_slice_string w _ s .i64 .i64 (i : Int) (j : Int) Tryz.underlying9 (by omega) (by omega) (by omega)]
  congr 2
  rw [Int.toNat_natCast, Int.toNat_natCast]
  apply ByteArray.ext
  rw [ByteArray.data_extract]
  apply Array.ext'
  rw [Array.toList_extract, List.extract_eq_take_drop]
  simp [List.drop_take]
/-- The operators of two bytes, and those of one, as the document writes them. -/
def dblS : ByteArray := ⟨#[124, 124, 38, 38, 61, 61, 33, 61, 60, 61, 62, 61]⟩
def sglS : ByteArray := ⟨#[60, 62, 43, 45, 42, 47, 37, 33, 63, 58, 46, 44, 61, 40, 41, 91, 93, 123, 125]⟩
def dblAt (j : Nat) : ByteArray := ⟨((dblS.data.toList.take (2 * j + 2)).drop (2 * j)).toArray⟩
theorem dblAt_eq : ∀ j : Fin 6, (dblAt j.1).data.toList = dbl.getD j.1 [] := by decide
theorem sglAt_eq : ∀ j : Fin 19, (sglS[j.1]'j.2) = sgl.getD j.1 0 := by decide
theorem dbl_mem (x : List UInt8) : dbl.contains x = true ↔ ∃ j, j < 6 ∧ dbl.getD j [] = x := by
  rw [List.contains_iff_mem]
  constructor
  · intro h
    obtain ⟨j, hj, e⟩ := List.getElem_of_mem h
    exact ⟨j, hj, by rw [← e]; simp [List.getD, List.getElem?_eq_getElem hj]⟩
  · rintro ⟨j, hj, rfl⟩
    have hj' : j < dbl.length := hj
    simp [List.getD, List.getElem?_eq_getElem hj']
theorem sgl_mem (x : UInt8) : sgl.contains x = true ↔ ∃ j, j < 19 ∧ sgl.getD j 0 = x := by
  rw [List.contains_iff_mem]
  constructor
  · intro h
    obtain ⟨j, hj, e⟩ := List.getElem_of_mem h
    exact ⟨j, hj, by rw [← e]; simp [List.getD, List.getElem?_eq_getElem hj]⟩
  · rintro ⟨j, hj, rfl⟩
    have hj' : j < sgl.length := hj
    simp [List.getD, List.getElem?_eq_getElem hj']
/-- Is no operator of two bytes at the head? -/
def noDbl (l : List UInt8) (j : Nat) : Prop := ∀ i, i < j → ∀ c d r, l = c :: d :: r → dbl.getD i [] ≠ [c, d]
theorem opL_two {c d : UInt8} {r : List UInt8} (h : dbl.contains [c, d] = true) : opL (c :: d :: r) = 2 := by simp only [opL]; rw [if_pos h]
theorem opL_rest {l : List UInt8} {c : UInt8} {r : List UInt8} (hl : l = c :: r) (h : noDbl l 6) : opL l = if sgl.contains c = true then 1 else 0 := by
  subst hl
  cases r with
  | nil => rfl
  | cons d r =>
    have hn : ¬ dbl.contains [c, d] = true := fun g => by
      obtain ⟨j, hj, e⟩ := (dbl_mem _).1 g
      exact h j hj c d r rfl e
    simp only [opL]
    rw [if_neg hn]
set_option maxHeartbeats 8000000 in
set_option maxRecDepth 100000 in
theorem rOperator_any (s : ByteArray) (k : Nat) (hk : k < s.size) (hs : s.size ≤ 1099511627776) (w : World) :
    Calls Tryz.prog 33 #[.string s, .int .i64 (k : Int)] w fun e w' => e = .returned (.int .i64 (opL (s.data.toList.drop k) : Nat)) ∧ Below w.heap.size w w' := by
  have hsI : (s.size : Int) ≤ 1099511627776 := by omega
  have hkI : (0 : Int) ≤ (k : Int) ∧ (k : Int) < (s.size : Int) := by omega
  have hcons := drop_consB s k hk
  have HLN := Lib.hid (lenB s)
  obtain ⟨R, hR⟩ : ∃ R, R = opL (s.data.toList.drop k) := ⟨_, rfl⟩
  rw [← hR]
  have HR := Lib.hid hR
  have HCO := Lib.hid hcons
  have hix := fun w => ixS s (k : Int) k rfl hk w
  clear hR hcons
  go_enter Tryz.func33, Tryz.ntmps33
  go_wp2_with fail
  go_loopw [5] (fun s5 wr => ∃ j : Nat, j ≤ 6 ∧ s5 = .int .i64 (2 * (j : Int)) ∧ Hid (noDbl (s.data.toList.drop k) j) ∧ Hid (Below w.heap.size w wr)) (fun s5 _ => 12 - (RowKit.intOf s5).toNat)
  case atStart => exact ⟨0, by omega, by simp, Lib.hid (fun i h => absurd h (Nat.not_lt_zero _)), Lib.hid (Below.refl _ _)⟩
  case round =>
    obtain ⟨j, hj, rfl, HN, HB⟩ := hrel
    by_cases hj6 : j < 6
    · have g1 : 2 * (j : Int) < 12 := by omega
      have hj0 : (0 : Int) ≤ 2 * (j : Int) := by omega
      have hdI := dblAt_eq ⟨j, hj6⟩
      by_cases h2 : k + 2 ≤ s.size
      · have g2 : (k : Int) + 2 ≤ (s.size : Int) := by omega
        have hcons2 := drop_consB s (k + 1) (by omega)
        have sl := fun w => sub_mid s (k : Int) ((k : Int) + 2) k (k + 2) rfl (by omega) (by omega) h2 w
        have sd := fun w => sub_mid dblS (2 * (j : Int)) (2 * (j : Int) + 2) (2 * j) (2 * j + 2) (by omega) (by omega) (by omega) (by show 2 * j + 2 ≤ 12; omega) w
        rw [show (⟨((dblS.data.toList.take (2 * j + 2)).drop (2 * j)).toArray⟩ : ByteArray) = dblAt j from rfl] at sd
        have hx : (s.data.toList.take (k + 2)).drop k = [s[k], s[k + 1]] := by
          rw [List.drop_take, show k + 2 - k = 2 by omega, HCO.out, hcons2]
          rfl
        rw [hx] at sl
        obtain ⟨x, hxe⟩ : ∃ x : ByteArray, x = ⟨#[s[k], s[k + 1]]⟩ := ⟨_, rfl⟩
        rw [show (⟨([s[k], s[k + 1]] : List UInt8).toArray⟩ : ByteArray) = x from by rw [hxe]] at sl
        have hxl : x.toList = [s[k], s[k + 1]] := by rw [Lib.toList_data, hxe]
        have hlc : s.data.toList.drop k = s[k] :: s[k + 1] :: s.data.toList.drop (k + 1 + 1) := by rw [HCO.out, hcons2]
        have hdl : (dblAt j).toList = dbl.getD j [] := by rw [Lib.toList_data]; exact hdI
        obtain ⟨y, hy⟩ : ∃ y : ByteArray, y = dblAt j := ⟨_, rfl⟩
        rw [← hy] at sd hdl
        rw [show dblS = (⟨#[124, 124, 38, 38, 61, 61, 33, 61, 60, 61, 62, 61]⟩ : ByteArray) from rfl] at sd
        cases q : (x.toList == y.toList)
        · have HN2 := Lib.hid (show noDbl (s.data.toList.drop k) (j + 1) from fun i hi c d r hcd => by
            rcases Nat.lt_succ_iff_lt_or_eq.1 hi with h | rfl
            · exact HN.out i h c d r hcd
            · rw [hlc] at hcd
              injection hcd with e1 e2
              injection e2 with e2 e3
              intro e
              rw [hxl, hdl, e, e1, e2] at q
              simp at q)
          clear hdI hcons2 hx hxe hxl hlc hdl hy h2
          go_wp2_with fail
          go_quiet (fail)
          have HBq := Lib.hid (below_drewN HB.out nq)
          go_wp2_with fail
          exact ⟨⟨j + 1, by omega, by go_num, HN2, HBq⟩, by simp [RowKit.intOf]; omega⟩
        · have HE := Lib.hid (show R = 2 from by
            rw [HR.out, hlc]
            refine opL_two ((dbl_mem _).2 ⟨j, hj6, ?_⟩)
            rw [hxl, hdl] at q
            exact (eq_of_beq q).symm)
          clear hdI hcons2 hx hxe hxl hlc hdl hy h2
          go_wp2_with fail
          go_quiet (fail)
          have HBq := Lib.hid (below_drewN HB.out nq)
          go_wp2_with fail
          go_ret
          exact ⟨by rw [HE.out]; rfl, HBq.out⟩
      · have g2 : decide ((k : Int) + 2 ≤ (s.size : Int)) = false := by simp; omega
        have HN2 := Lib.hid (show noDbl (s.data.toList.drop k) (j + 1) from fun i hi c d r hcd => by
          have h3 := congrArg List.length hcd
          rw [List.length_drop, HLN.out, List.length_cons, List.length_cons] at h3
          omega)
        clear hdI h2
        go_wp2_with fail
        go_quiet (fail)
        have HBq := Lib.hid (below_drewN HB.out nq)
        go_wp2_with fail
        exact ⟨⟨j + 1, by omega, by go_num, HN2, HBq⟩, by simp [RowKit.intOf]; omega⟩
    · obtain rfl : j = 6 := by omega
      have HOP := Lib.hid (opL_rest HCO.out HN.out)
      clear hj6 HN
      go_wp2_with fail
      go_loopw [6] (fun s6 wq => ∃ i : Nat, i ≤ 19 ∧ s6 = .int .i64 (i : Int) ∧ Hid (∀ m, m < i → sgl.getD m 0 ≠ s[k]) ∧ Hid (Below w.heap.size w wq)) (fun s6 _ => 19 - (RowKit.intOf s6).toNat)
      case atStart => exact ⟨0, by omega, rfl, Lib.hid (fun m h => absurd h (Nat.not_lt_zero _)), HB⟩
      case round =>
        obtain ⟨i, hi, rfl, HM, HB2⟩ := hrel
        by_cases hi19 : i < 19
        · have hiI : (0 : Int) ≤ (i : Int) ∧ (i : Int) < 19 := by omega
          have hsg := sglAt_eq ⟨i, hi19⟩
          have hiy := fun w => ixS sglS (i : Int) i rfl hi19 w
          obtain ⟨y, hy⟩ : ∃ y, y = sglS[i]'hi19 := ⟨_, rfl⟩
          rw [← hy] at hiy
          rw [show sglS = (⟨#[60, 62, 43, 45, 42, 47, 37, 33, 63, 58, 46, 44, 61, 40, 41, 91, 93, 123, 125]⟩ : ByteArray) from rfl] at hiy
          have hyg : y = sgl.getD i 0 := hy.trans hsg
          obtain ⟨c, hc⟩ : ∃ c, c = s[k] := ⟨_, rfl⟩
          rw [← hc] at hix HOP HM
          have hc9 := c.toNat_lt
          have hy9 := y.toNat_lt
          by_cases hcy : c = y
          · have q : ((c.toNat : Int) == (y.toNat : Int)) = true := by rw [hcy]; exact beq_self_eq_true _
            have HE := Lib.hid (show R = 1 from by rw [HR.out, HOP.out, if_pos ((sgl_mem _).2 ⟨i, hi19, by rw [← hyg, hcy]⟩)])
            clear hsg hy hyg hc9 hy9 hcy hc
            go_wp2_with fail
            go_quiet (fail)
            have HBq := Lib.hid (below_drewN HB2.out nq)
            go_wp2_with fail
            go_ret
            exact ⟨by rw [HE.out]; rfl, HBq.out⟩
          · have q : ((c.toNat : Int) == (y.toNat : Int)) = false := by
              rw [beq_eq_false_iff_ne]
              intro e
              exact hcy (UInt8.toNat_inj.1 (by omega))
            have HM2 := Lib.hid (show ∀ m, m < i + 1 → sgl.getD m 0 ≠ s[k] from fun m hm => by
              rw [← hc]
              rcases Nat.lt_succ_iff_lt_or_eq.1 hm with h | rfl
              · exact HM.out m h
              · rw [← hyg]; exact fun e => hcy e.symm)
            clear hsg hy hyg hc9 hy9 hcy hc
            go_wp2_with fail
            go_quiet (fail)
            have HBq := Lib.hid (below_drewN HB2.out nq)
            go_wp2_with fail
            exact ⟨⟨i + 1, by omega, by go_num, HM2, HBq⟩, by simp [RowKit.intOf]; omega⟩
        · obtain rfl : i = 19 := by omega
          have HE := Lib.hid (show R = 0 from by
            rw [HR.out, HOP.out, if_neg (fun h => by
              obtain ⟨m, hm, e⟩ := (sgl_mem _).1 h
              exact HM.out m hm e)])
          clear hi19
          go_wp2_with fail
          go_ret
          exact ⟨by rw [HE.out]; rfl, HB2.out⟩
end Go.Proofs.YtoliiiijbdoliaaGreatDoor
