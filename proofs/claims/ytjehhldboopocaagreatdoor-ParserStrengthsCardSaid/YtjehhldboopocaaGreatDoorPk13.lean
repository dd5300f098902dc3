/- Contracts of functions of the program, and what they are made of (parser; Pk13). -/
import Derived.Test.YtjehhldboopocaaGreatDoorPk05
import Derived.Test.YtjehhldboopocaaGreatDoorPk12
import Derived.OwnWalk
namespace Go.Proofs.YtjehhldboopocaaGreatDoor.Lx
def PR.all {V : Type} (p : Nat → Prop) : PR V → Prop
  | .ok _ a => p a
  | _ => True
theorem PR.all_bind {V : Type} {p q : Nat → Prop} {r : PR V} {k : Ex V → Nat → PR V} (h : r.all p) (hk : ∀ x a, p a → (k x a).all q) : (r.bind k).all q := by
  cases r with
  | out => exact trivial
  | err a e => exact trivial
  | ok x a => exact hk x a h
theorem PR.all_mono {V : Type} {p q : Nat → Prop} {r : PR V} (h : r.all p) (hk : ∀ a, p a → q a) : r.all q := by
  cases r with
  | out => exact trivial
  | err a e => exact trivial
  | ok x a => exact hk a h
theorem op_lt {ts : Ts} {i : Nat} {s : List UInt8} (h : opTk ts i s = true) : i < ts.length := by
  unfold opTk at h
  exact (List.getElem?_eq_some_iff.1 (of_decide_eq_true h)).1
theorem get_lt {ts : Ts} {i : Nat} {t : Int × List UInt8} (h : ts[i]? = some t) : i < ts.length := (List.getElem?_eq_some_iff.1 h).1
theorem bin_lt {ts : Ts} {i n : Nat} (h : (binAt ts i).1 = n ∧ n ≠ 0 ∧ (True)) : i < ts.length := by
  obtain ⟨h1, h2, _⟩ := h
  unfold binAt at h1
  split at h1
  · rename_i h3; exact get_lt h3
  · exact absurd h1.symm h2
section
variable {V : Type} (P : Lits V) (ts : Ts)
def adv : NT V → Nat → Nat → Prop
  | .loop _ _ _, i, a => i ≤ a
  | .more _, i, a => i ≤ a
  | _, i, a => i < a ∧ i < ts.length
theorem stepG_adv (g : NT V → Nat → PR V) (hg : ∀ t i, (g t i).all (adv ts t i)) : ∀ t i, (stepG P g ts t i).all (adv ts t i) := by
  intro t i
  cases t with
  | oper n => exact trivial
  | loop n s x => exact trivial
  | cond =>
    simp only [stepG]
    refine PR.all_bind (hg _ _) fun c a h => ?_
    obtain ⟨h1, h2⟩ := h
    split
    · refine PR.all_bind (hg _ _) fun x b h3 => ?_
      obtain ⟨h3, _⟩ := h3
      split
      · refine PR.all_bind (hg _ _) fun y d h4 => ?_
        obtain ⟨h4, _⟩ := h4
        exact ⟨by omega, h2⟩
      · exact trivial
    · exact ⟨h1, h2⟩
  | un =>
    simp only [stepG]
    split
    · rename_i ho
      refine PR.all_bind (hg _ _) fun x a h => ?_
      exact ⟨by have := h.1; omega, op_lt ho⟩
    · split
      · rename_i ho
        refine PR.all_bind (hg _ _) fun x a h => ?_
        exact ⟨by have := h.1; omega, op_lt ho⟩
      · exact hg .chn i
  | chn =>
    simp only [stepG]
    refine PR.all_bind (hg _ _) fun x a h => ?_
    refine PR.all_mono (hg _ _) fun b hb => ?_
    have hb : a ≤ b := hb
    exact ⟨by have := h.1; omega, h.2⟩
  | more x =>
    simp only [stepG]
    split
    · split
      · split
        · refine PR.all_mono (hg _ _) fun b hb => ?_
          have hb : i + 2 ≤ b := hb
          show i ≤ b
          omega
        · exact trivial
      · exact trivial
    · split
      · refine PR.all_bind (hg _ _) fun y a h => ?_
        obtain ⟨h1, _⟩ := h
        split
        · refine PR.all_mono (hg _ _) fun b hb => ?_
          have hb : a + 1 ≤ b := hb
          show i ≤ b
          omega
        · exact trivial
      · exact Nat.le_refl i
  | atm =>
    simp only [stepG]
    split
    · exact trivial
    · rename_i k s hg1
      have hl := get_lt hg1
      have one : (PR.ok (V := V) (.mk 0 P.zero [] [] []) (i + 1)).all (adv ts (.atm : NT V) i) := ⟨Nat.lt_succ_self i, hl⟩
      repeat' (first
        | exact trivial
        | exact ⟨Nat.lt_succ_self i, hl⟩
        | (refine PR.all_bind (hg _ _) fun x a h => ?_; obtain ⟨h1, _⟩ := h)
        | exact ⟨by omega, hl⟩
        | split)
  | lst cl ent first acc keys =>
    simp only [stepG]
    have item : ∀ (j : Nat) (ks : List (List UInt8)), i ≤ j → (∀ b, j < b → j < ts.length → i < b ∧ i < ts.length) := fun j ks hj b h1 h2 => ⟨by omega, by omega⟩
    repeat' (first
      | exact trivial
      | (refine PR.all_bind (hg _ _) fun x a h => ?_; obtain ⟨h1, h2⟩ := h)
      | exact ⟨by omega, by omega⟩
      | (rename_i ho; exact ⟨Nat.lt_succ_self i, op_lt ho.2⟩)
      | (refine PR.all_mono (hg _ _) fun b hb => ?_; obtain ⟨h3, h4⟩ := hb; exact ⟨by omega, by omega⟩)
      | split)
theorem dG_adv : ∀ (f : Nat) (t : NT V) (i : Nat), (dG P ts f t i).all (adv ts t i)
  | 0, _, _ => trivial
  | f + 1, t, i => by
    have ih := dG_adv f
    have gen := stepG_adv P ts (dG P ts f) ih t i
    cases t with
    | oper n =>
      show (if n = 7 then dG P ts f .un i else (dG P ts f (.oper (n + 1)) i).bind fun x a => dG P ts f (.loop n 0 x) a).all _
      split
      · exact ih .un i
      · refine PR.all_bind (ih _ _) fun x a h => ?_
        refine PR.all_mono (ih _ _) fun b hb => ?_
        have hb : a ≤ b := hb
        exact ⟨by have := h.1; omega, h.2⟩
    | loop n s x =>
      show (if (binAt ts i).1 = n ∧ n ≠ 0 ∧ (s = 0 ∨ n ≠ 4) then (dG P ts f (.oper (n + 1)) (i + 1)).bind fun y a => dG P ts f (.loop n 1 (node P 7 (binAt ts i).2 [x, y])) a else .ok x i).all _
      split
      · refine PR.all_bind (ih _ _) fun y a h => ?_
        refine PR.all_mono (ih _ _) fun b hb => ?_
        have hb : a ≤ b := hb
        show i ≤ b
        have := h.1
        omega
      · exact Nat.le_refl i
    | cond => exact gen
    | un => exact gen
    | chn => exact gen
    | more x => exact gen
    | atm => exact gen
    | lst a b c d e => exact gen
def rankT : NT V → Nat
  | .atm => 1
  | .chn => 2
  | .un => 3
  | .oper n => 4 + (7 - n)
  | .cond => 10
  | .lst _ _ _ _ _ => 11
  | _ => 0
def okN : NT V → Prop
  | .oper n => 2 ≤ n ∧ n ≤ 7
  | .loop n _ _ => 2 ≤ n ∧ n ≤ 6
  | _ => True
def meas (t : NT V) (i : Nat) : Nat := 16 * (ts.length - i) + rankT t
theorem PR.tot_bind {p : Nat → Prop} {r : PR V} {k : Ex V → Nat → PR V} (h : r ≠ .out) (ha : r.all p) (hk : ∀ x a, p a → k x a ≠ .out) : r.bind k ≠ .out := by
  cases r with
  | out => exact absurd rfl h
  | err a e => exact fun h => by cases h
  | ok x a => exact hk x a ha
theorem stepG_tot (g : NT V → Nat → PR V) (hg : ∀ t i, (g t i).all (adv ts t i)) (t : NT V) (i : Nat) (ht : okN t) (hn : (∀ n, t ≠ .oper n) ∧ ∀ n s x, t ≠ .loop n s x)
    (hm : ∀ t' i', okN t' → meas ts t' i' < meas ts t i → g t' i' ≠ .out) : stepG P g ts t i ≠ .out := by
  have op2 : okN (.oper 2 : NT V) := ⟨Nat.le_refl _, by decide⟩
  cases t with
  | oper n => exact absurd rfl (hn.1 n)
  | loop n s x => exact absurd rfl (hn.2 n s x)
  | cond =>
    simp only [stepG]
    refine PR.tot_bind (hm _ _ op2 (by simp only [meas, rankT]; omega)) (hg _ _) fun c a h => ?_
    obtain ⟨h1, h2⟩ := h
    split
    · refine PR.tot_bind (hm _ _ trivial (by simp only [meas, rankT]; omega)) (hg _ _) fun x b h3 => ?_
      obtain ⟨h3, _⟩ := h3
      split
      · refine PR.tot_bind (hm _ _ trivial (by simp only [meas, rankT]; omega)) (hg _ _) fun y d h4 => ?_
        exact fun h => by cases h
      · exact fun h => by cases h
    · exact fun h => by cases h
  | un =>
    simp only [stepG]
    split
    · rename_i ho
      have := op_lt ho
      refine PR.tot_bind (hm _ _ trivial (by simp only [meas, rankT]; omega)) (hg _ _) fun x a h => ?_
      exact fun h => by cases h
    · split
      · rename_i ho
        have := op_lt ho
        refine PR.tot_bind (hm _ _ trivial (by simp only [meas, rankT]; omega)) (hg _ _) fun x a h => ?_
        exact fun h => by cases h
      · exact hm _ _ trivial (by simp only [meas, rankT]; omega)
  | chn =>
    simp only [stepG]
    refine PR.tot_bind (hm _ _ trivial (by simp only [meas, rankT]; omega)) (hg _ _) fun x a h => ?_
    obtain ⟨h1, h2⟩ := h
    exact hm _ _ trivial (by simp only [meas, rankT]; omega)
  | more x =>
    simp only [stepG]
    split
    · rename_i ho
      have := op_lt ho
      split
      · split
        · exact hm _ _ trivial (by simp only [meas, rankT]; omega)
        · exact fun h => by cases h
      · exact fun h => by cases h
    · split
      · rename_i ho
        have := op_lt ho
        refine PR.tot_bind (hm _ _ trivial (by simp only [meas, rankT]; omega)) (hg _ _) fun y a h => ?_
        obtain ⟨h1, _⟩ := h
        split
        · exact hm _ _ trivial (by simp only [meas, rankT]; omega)
        · exact fun h => by cases h
      · exact fun h => by cases h
  | atm =>
    simp only [stepG]
    split
    · exact fun h => by cases h
    · rename_i k s hg1
      have hl := get_lt hg1
      repeat' (first
        | exact (fun h => by cases h)
        | (refine PR.tot_bind (hm _ _ trivial (by simp only [meas, rankT]; omega)) (hg _ _) fun x a h => ?_; obtain ⟨h1, _⟩ := h)
        | split)
  | lst cl ent first acc keys =>
    simp only [stepG]
    repeat' (first
      | exact (fun h => by cases h)
      | (refine PR.tot_bind (hm _ _ trivial (by simp only [meas, rankT]; omega)) (hg _ _) fun x a h => ?_; obtain ⟨h1, h2⟩ := h)
      | exact hm _ _ trivial (by simp only [meas, rankT]; omega)
      | split)
theorem dG_tot : ∀ (f : Nat) (t : NT V) (i : Nat), okN t → meas ts t i < f → dG P ts f t i ≠ .out
  | 0, _, _, _, h => absurd h (Nat.not_lt_zero _)
  | f + 1, t, i, ht, hf => by
    have ih := dG_tot f
    have had := dG_adv P ts f
    have gen : ((∀ n, t ≠ .oper n) ∧ ∀ n s x, t ≠ .loop n s x) → stepG P (dG P ts f) ts t i ≠ .out := fun hn => stepG_tot P ts _ had t i ht hn fun t' i' h1 h2 => ih t' i' h1 (by omega)
    cases t with
    | oper n =>
      obtain ⟨h2, h7⟩ := ht
      rw [dG_oper]
      simp only [meas, rankT] at hf
      split
      · exact ih .un i trivial (by simp only [meas, rankT]; omega)
      · refine PR.tot_bind (ih _ _ ⟨by omega, by omega⟩ (by simp only [meas, rankT]; omega)) (had _ _) fun x a h => ?_
        obtain ⟨h3, h4⟩ := h
        exact ih _ _ ⟨by omega, by omega⟩ (by simp only [meas, rankT]; omega)
    | loop n s x =>
      obtain ⟨h2, h6⟩ := ht
      rw [dG_loop]
      simp only [meas, rankT] at hf
      split
      · rename_i hc
        have hl := bin_lt (ts := ts) (i := i) (n := n) ⟨hc.1, hc.2.1, trivial⟩
        refine PR.tot_bind (ih _ _ ⟨by omega, by omega⟩ (by simp only [meas, rankT]; omega)) (had _ _) fun y a h => ?_
        obtain ⟨h3, h4⟩ := h
        exact ih _ _ ⟨h2, h6⟩ (by simp only [meas, rankT]; omega)
      · exact fun h => by cases h
    | cond => exact gen ⟨(fun n h => by cases h), (fun n s x h => by cases h)⟩
    | un => exact gen ⟨(fun n h => by cases h), (fun n s x h => by cases h)⟩
    | chn => exact gen ⟨(fun n h => by cases h), (fun n s x h => by cases h)⟩
    | more x => exact gen ⟨(fun n h => by cases h), (fun n s x h => by cases h)⟩
    | atm => exact gen ⟨(fun n h => by cases h), (fun n s x h => by cases h)⟩
    | lst a b c d e => exact gen ⟨(fun n h => by cases h), (fun n s x h => by cases h)⟩
/-- Both grammars answer, and alike. -/
theorem both (t : NT V) (i : Nat) (ht : goodT t) : ∃ f r, r ≠ PR.out ∧ dG P ts f t i = r ∧ pG P ts (4 ^ f) t i = r := by
  have ho : okN t := by
    cases t with
    | loop n s x => exact absurd ht id
    | oper n => exact ht
    | _ => exact trivial
  have h := dG_tot P ts (meas ts t i + 1) t i ho (Nat.lt_succ_self _)
  refine ⟨meas ts t i + 1, _, h, rfl, ?_⟩
  rcases (grammars P ts (meas ts t i + 1)).1 t i ht with e | e
  · exact absurd e h
  · exact e.symm
end
end Go.Proofs.YtjehhldboopocaaGreatDoor.Lx
namespace Go.Proofs.YtjehhldboopocaaGreatDoor.Lx
def seen (ts : Ts) : Ts := ts.map fun t => if inS t.1 t.2 = true then t else (0, [])
theorem seen_get (ts : Ts) (i : Nat) : (seen ts)[i]? = (ts[i]?).map fun t => if inS t.1 t.2 = true then t else (0, []) := List.getElem?_map
theorem seen_len (ts : Ts) : (seen ts).length = ts.length := List.length_map _
section
variable {V : Type} (P : Lits V) (ts : Ts)
end
end Go.Proofs.YtjehhldboopocaaGreatDoor.Lx
namespace Go.Proofs.YtjehhldboopocaaGreatDoor.Lx
open Go.RowKit Go.Lib
set_option linter.unusedVariables false
theorem char_slice (s : ByteArray) (i : Nat) (h : i < s.size) (w : World) : (Instr.sliceAt 9 (.string s) (some (.int .i64 (i : Int))) (some (.int .i64 ((i : Int) + 1))) none).run Tryz.prog w = .ok (.string ⟨#[s[i]]⟩) w := by
  rw [run_sliceAt_string _ _ _ _ _ _ Tryz.underlying9, run_slice_string w _ s .i64 .i64 (i : Int) ((i : Int) + 1) Tryz.underlying9 (by omega) (by omega) (by omega)]
  congr 2
  rw [show ((i : Int) + 1).toNat = i + 1 by omega, Int.toNat_natCast]
  apply ByteArray.ext
  rw [ByteArray.data_extract]
  apply Array.ext'
  rw [Array.toList_extract, List.extract_eq_take_drop, show i + 1 - i = 1 by omega, List.drop_eq_getElem_cons (by rw [Array.length_toList]; exact h), List.take_succ_cons, List.take_zero]
  rfl
theorem slice_fromS (s : ByteArray) (i : Nat) (h : i ≤ s.size) (hm : s.size ≤ 9223372036854775807) (w : World) : (Instr.sliceAt 9 (.string s) (some (.int .i64 (i : Int))) none none).run Tryz.prog w = .ok (.string ⟨(s.data.toList.drop i).toArray⟩) w := by
  rw [run_sliceAt_string _ _ _ _ _ _ Tryz.underlying9, run_slice_string_from_if w 9 s .i64 (i : Int) Tryz.underlying9, if_pos (by omega)]
  congr 2
  apply ByteArray.ext
  rw [ByteArray.data_extract]
  apply Array.ext'
  rw [Array.toList_extract, List.extract_eq_take_drop, Int.toNat_natCast]
  rw [List.take_of_length_le (by rw [List.length_drop, Array.length_toList]; show s.size - i ≤ _; omega)]
/-- What is known of hexByte at a round. -/
def HRel (l : List UInt8) (i : Nat) (a : Int) : Prop := (i = 0 → a = 0) ∧ (i = 1 → ∃ c r v, l = c :: r ∧ hexV c = some v ∧ a = (v : Int) ∧ v ≤ 15) ∧ (i = 2 → ∃ c, escL l = (c, 0) ∧ a = (c.toNat : Int))
set_option maxHeartbeats 8000000 in
set_option maxRecDepth 100000 in
theorem hexByte_any (s : ByteArray) (hs : s.size ≤ 281474976710656) (w : World) (hT : TabL w) :
    Calls Tryz.prog 157 #[.string s] w fun e w' => e = .returned (.tuple #[.int .u8 ((escL s.data.toList).1.toNat : Int), .int .i64 ((escL s.data.toList).2 : Nat)]) ∧ Below w.heap.size w w' := by
  have HT := Lib.hid hT
  have PU := Lib.hid (fun c w h => parse8_one c w h)
  have hl := lenB s
  have hsI : (s.size : Int) ≤ 281474976710656 := by omega
  clear hT hs
  go_enter Tryz.func157, Tryz.ntmps157
  go_wp2_with fail
  go_loopw [4, 8] (fun s4 s8 wr => ∃ (i : Nat) (a : Int), i ≤ 2 ∧ i ≤ s.size ∧ s4 = .int .u8 a ∧ s8 = .int .i64 (i : Int) ∧ Hid (HRel s.data.toList i a) ∧ Hid (Below w.heap.size w wr)) (fun _ s8 _ => 2 - (RowKit.intOf s8).toNat)
  case atStart => exact ⟨0, 0, by omega, by omega, rfl, rfl, Lib.hid ⟨fun _ => rfl, fun h => by omega, fun h => by omega⟩, Lib.hid (Below.refl _ _)⟩
  case round =>
    obtain ⟨i, a, hi, his, rfl, rfl, HR, HB⟩ := hrel
    by_cases h2 : i = 2
    · subst h2
      obtain ⟨c, hc, hac⟩ := HR.out.2.2 rfl
      have HA := Lib.hid hac
      have HC := Lib.hid hc
      clear hc hac
      go_wp2_with fail
      go_ret2
      exact ⟨by rw [HC.out, HA.out]; rfl, HB.out⟩
    · have hi2 : (i : Int) < 2 := by omega
      have hi0 : (0 : Int) ≤ (i : Int) := by omega
      have hab : 0 ≤ a ∧ a ≤ 15 := by
        rcases (show i = 0 ∨ i = 1 by omega) with rfl | rfl
        · have := HR.out.1 rfl
          omega
        · obtain ⟨c, r, v, h1, h2, h3, h4⟩ := HR.out.2.1 rfl
          omega
      obtain ⟨ha0, ha1⟩ := hab
      by_cases hlt : i < s.size
      · have hq : (i == s.size) = false := by rw [beq_eq_false_iff_ne]; omega
        have hqI : ((i : Int) == (s.size : Int)) = false := by rw [beq_eq_false_iff_ne]; omega
        have st := char_slice s i hlt
        have hltI : (i : Int) < (s.size : Int) := by omega
        have hdrop := drop_consB s i hlt
        generalize s[i] = c0 at st hdrop
        have PU0 := Lib.hid (fun w h => PU.out c0 w h)
        generalize (⟨#[c0]⟩ : ByteArray) = sc at st PU0
        have HD := Lib.hid hdrop
        clear hdrop
        go_wp2_with fail
        go_fit (PU0.out _ (HT.out.below HB.out))
        rintro e w1 ⟨⟨x, er, rfl, hx⟩, hb⟩
        have HB1 := Lib.hid (HB.out.trans (hb.mono HB.out.size))
        clear hb
        rcases hx with ⟨rfl, hv, hx15⟩ | ⟨⟨te, pe, rfl⟩, hv⟩
        · have hxI : (x : Int) ≤ 15 := by omega
          have HR1 := Lib.hid (show HRel s.data.toList (i + 1) (16 * a + (x : Int)) from by
            refine ⟨fun h => by omega, fun h => ?_, fun h => ?_⟩
            · obtain rfl : i = 0 := by omega
              have ha := HR.out.1 rfl
              exact ⟨c0, s.data.toList.drop (0 + 1), x, HD.out, hv, by omega, hx15⟩
            · obtain rfl : i = 1 := by omega
              obtain ⟨c, r, v, h1, h2, h3, h4⟩ := HR.out.2.1 rfl
              have hd := HD.out
              rw [h1] at hd ⊢
              rw [List.drop_succ_cons, List.drop_zero] at hd
              refine ⟨UInt8.ofNat (16 * v + x), ?_, ?_⟩
              · rw [hd]
                simp only [escL, h2, hv]
              · rw [h3, UInt8.toNat_ofNat']
                omega)
          clear hv hx15
          go_wp2_with fail
          exact ⟨⟨i + 1, 16 * a + (x : Int), by omega, by omega, rfl, by go_num, HR1, HB1⟩, by simp [RowKit.intOf]; omega⟩
        · have HE := Lib.hid (show escL s.data.toList = (0, 5) from by
            rcases (show i = 0 ∨ i = 1 by omega) with rfl | rfl
            · have hd := HD.out
              rw [List.drop_zero] at hd
              rw [hd]
              simp only [escL, hv]
            · obtain ⟨c, r, v, h1, h2, h3, h4⟩ := HR.out.2.1 rfl
              have hd := HD.out
              rw [h1] at hd ⊢
              rw [List.drop_succ_cons, List.drop_zero] at hd
              rw [hd]
              simp only [escL, h2, hv])
          clear hv
          go_wp2_with fail
          go_ret2
          exact ⟨by rw [HE.out]; rfl, HB1.out⟩
      · obtain rfl : i = s.size := by omega
        have hq : (s.size == s.size) = true := beq_self_eq_true _
        have hqI : ((s.size : Int) == (s.size : Int)) = true := beq_self_eq_true _
        have HE := Lib.hid (show escL s.data.toList = (0, 4) from by
          rcases (show s.size = 0 ∨ s.size = 1 by omega) with h0 | h0
          · have : s.data.toList = [] := List.eq_nil_of_length_eq_zero (by omega)
            rw [this]
            rfl
          · obtain ⟨c, r, v, h1, h2, h3, h4⟩ := HR.out.2.1 h0
            have hr : r = [] := by
              rw [h1] at hl
              simp at hl
              exact List.eq_nil_of_length_eq_zero (by omega)
            rw [h1, hr]
            simp only [escL, h2])
        clear hlt
        go_wp2_with fail
        go_ret2
        exact ⟨by rw [HE.out]; rfl, HB.out⟩
theorem extract_drop (s : ByteArray) (i : Nat) : (s.extract i s.size).data.toList = s.data.toList.drop i := by
  rw [ByteArray.data_extract, Array.toList_extract, List.extract_eq_take_drop, List.take_of_length_le (by rw [List.length_drop, Array.length_toList]; show s.size - i ≤ _; omega)]
theorem ixS (s : ByteArray) (k : Int) (i : Nat) (hk : k = (i : Int)) (h : i < s.size) (w : World) : (Instr.index 9 (.string s) (.int .i64 k)).run Tryz.prog w = .ok (.int .u8 ((s[i]).toNat : Int)) w := by
  subst hk
  rw [run_index_string w _ _ _ _ Tryz.underlying9, dif_pos ⟨by omega, by omega⟩]
  rfl
theorem chrA_cons (c : UInt8) (r : List UInt8) : chrA (c :: r) = if c.toNat < 32 then (0, 0, 5) else if c ≠ 92 then (c, 1, 0) else match r with
      | [] => (0, 0, 4)
      | d :: q => if d = 34 ∨ d = 92 then (d, 2, 0) else if d = 110 then (10, 2, 0) else if d = 116 then (9, 2, 0) else if d = 120 then (if (escL q).2 = 0 then ((escL q).1, 4, 0) else (0, 0, (escL q).2)) else (0, 0, 5) := rfl
/-- What character answers. -/
def ChrPost (l : List UInt8) (w : World) (e : Ending) (w' : World) : Prop := ∃ c n : Int, e = .returned (.tuple #[.int .u8 c, .int .i64 n, .int .i64 ((chrA l).2.2 : Nat)]) ∧ ((chrA l).2.2 = 0 → c = ((chrA l).1.toNat : Int) ∧ n = ((chrA l).2.1 : Nat)) ∧ Below w.heap.size w w'
theorem ChrPost.of {l : List UInt8} {w w' : World} {x : UInt8 × Nat × Nat} (h : chrA l = x) {c n er : Int} (he : er = (x.2.2 : Nat)) (hc : x.2.2 = 0 → c = (x.1.toNat : Int) ∧ n = (x.2.1 : Nat)) (hb : Below w.heap.size w w') : ChrPost l w (.returned (.tuple #[.int .u8 c, .int .i64 n, .int .i64 er])) w' := by
  unfold ChrPost
  rw [h]
  exact ⟨c, n, by rw [he], hc, hb⟩
set_option maxHeartbeats 8000000 in
set_option maxRecDepth 100000 in
theorem character_any (s : ByteArray) (h0 : 0 < s.size) (hs : s.size ≤ 281474976710656) (w : World) (hT : TabL w) :
    Calls Tryz.prog 118 #[.string s] w (ChrPost s.data.toList w) := by
  have HT := Lib.hid hT
  have hl := lenB s
  have hcons : s.data.toList = s[0] :: s.data.toList.drop 1 := by
    have h := drop_consB s 0 h0
    rwa [List.drop_zero] at h
  have hch := chrA_cons s[0] (s.data.toList.drop 1)
  rw [← hcons] at hch
  have i0 := fun w => ixS s 0 0 rfl h0 w
  have h0I : (0 : Int) < (s.size : Int) := by omega
  obtain ⟨c, hc⟩ : ∃ c, c = s[0] := ⟨_, rfl⟩
  rw [← hc] at hch i0
  have hc9 := c.toNat_lt
  have hcI : (0 : Int) ≤ (c.toNat : Int) ∧ (c.toNat : Int) ≤ 255 := by omega
  clear hc hT
  by_cases k1 : c.toNat < 32
  · have q1 : (c.toNat : Int) < 32 := by omega
    rw [if_pos k1] at hch
    have HC := Lib.hid hch
    clear hch k1 hcons hc9
    generalize c.toNat = cn at *
    go_enter Tryz.func118, Tryz.ntmps118
    go_wp2_with fail
    go_ret3
    exact ChrPost.of HC.out rfl (fun h => absurd h (by decide)) (Below.refl _ _)
  have q1 : ¬ (c.toNat : Int) < 32 := by omega
  rw [if_neg k1] at hch
  by_cases k2 : c = 92
  · rw [if_neg (fun h => h k2)] at hch
    have q2 : ((c.toNat : Int) == 92) = true := by rw [k2]; rfl
    have q2n : ((c.toNat : Int) != 92) = false := by rw [k2]; rfl
    clear k1 k2 hc9
    by_cases k3 : s.size = 1
    · have hd : s.data.toList.drop 1 = [] := List.drop_eq_nil_of_le (by omega)
      rw [hd] at hch
      have q3 : ((s.size : Int) == 1) = true := by rw [k3]; rfl
      have HC := Lib.hid hch
      clear hch hcons hd k3
      generalize c.toNat = cn at *
      go_enter Tryz.func118, Tryz.ntmps118
      go_wp2_with fail
      go_ret3
      exact ChrPost.of HC.out rfl (fun h => absurd h (by decide)) (Below.refl _ _)
    · have h1 : 1 < s.size := by omega
      have q3 : ((s.size : Int) == 1) = false := by rw [beq_eq_false_iff_ne]; omega
      have hd : s.data.toList.drop 1 = s[1] :: s.data.toList.drop 2 := drop_consB s 1 h1
      rw [hd] at hch
      have i1 := fun w => ixS s 1 1 rfl h1 w
      have h1I : (1 : Int) < (s.size : Int) := by omega
      have HB := Lib.hid (fun w h => hexByte_any (s.extract 2 s.size) (by rw [← lenB, extract_drop, List.length_drop]; omega) w h)
      rw [extract_drop] at HB
      obtain ⟨d, hdd⟩ : ∃ d, d = s[1] := ⟨_, rfl⟩
      rw [← hdd] at hch i1
      have hd9 := d.toNat_lt
      have hdI : (0 : Int) ≤ (d.toNat : Int) ∧ (d.toNat : Int) ≤ 255 := by omega
      generalize s.data.toList.drop 2 = q at hch HB hd
      simp only at hch
      have inj : ∀ n : Nat, n < 256 → d ≠ UInt8.ofNat n → ((d.toNat : Int) == (n : Int)) = false := fun n hn h => by
        rw [beq_eq_false_iff_ne]
        intro e
        exact h (u8_of hn (by omega))
      clear k3 hd hdd hcons
      by_cases d1 : d = 34 ∨ d = 92
      · rw [if_pos d1] at hch
        have HC := Lib.hid hch
        have HI := Lib.hid hdI
        rcases d1 with rfl | rfl
        · clear hch inj
          go_enter Tryz.func118, Tryz.ntmps118
          go_wp2_with fail
          go_ret3
          exact ChrPost.of HC.out rfl (fun _ => ⟨rfl, rfl⟩) (Below.refl _ _)
        · clear hch inj
          go_enter Tryz.func118, Tryz.ntmps118
          go_wp2_with fail
          go_ret3
          exact ChrPost.of HC.out rfl (fun _ => ⟨rfl, rfl⟩) (Below.refl _ _)
      rw [if_neg d1] at hch
      have e34 := inj 34 (by decide) (fun h => d1 (.inl h))
      have e92 := inj 92 (by decide) (fun h => d1 (.inr h))
      by_cases d2 : d = 110
      · rw [if_pos d2] at hch
        have HC := Lib.hid hch
        subst d2
        clear hch inj e34 e92 d1
        go_enter Tryz.func118, Tryz.ntmps118
        go_wp2_with fail
        go_ret3
        exact ChrPost.of HC.out rfl (fun _ => ⟨rfl, rfl⟩) (Below.refl _ _)
      rw [if_neg d2] at hch
      have e110 := inj 110 (by decide) d2
      by_cases d3 : d = 116
      · rw [if_pos d3] at hch
        have HC := Lib.hid hch
        subst d3
        clear hch inj e34 e92 e110 d1 d2
        go_enter Tryz.func118, Tryz.ntmps118
        go_wp2_with fail
        go_ret3
        exact ChrPost.of HC.out rfl (fun _ => ⟨rfl, rfl⟩) (Below.refl _ _)
      rw [if_neg d3] at hch
      have e116 := inj 116 (by decide) d3
      by_cases d4 : d = 120
      · rw [if_pos d4] at hch
        have HC := Lib.hid hch
        subst d4
        generalize escL q = p at HB hch HC
        obtain ⟨px, pe⟩ := p
        have hpx := px.toNat_lt
        have hpI : (0 : Int) ≤ (px.toNat : Int) ∧ (px.toNat : Int) ≤ 255 := by omega
        clear hch inj e34 e92 e110 e116 d1 d2 d3 hpx
        go_enter Tryz.func118, Tryz.ntmps118
        go_wp2_with fail
        go_fit (HB.out _ HT.out)
        rintro e w1 ⟨rfl, hb⟩
        have B1 := Lib.hid hb
        clear hb
        go_wp2_with fail
        go_ret3
        by_cases hp : pe = 0
        · have h := HC.out
          rw [if_pos hp] at h
          exact ChrPost.of h (by rw [hp]) (fun _ => ⟨rfl, rfl⟩) B1.out
        · have h := HC.out
          rw [if_neg hp] at h
          exact ChrPost.of h rfl (fun h0 => absurd h0 hp) B1.out
      · rw [if_neg d4] at hch
        have e120 := inj 120 (by decide) d4
        have HC := Lib.hid hch
        clear hch inj d1 d2 d3 d4
        generalize d.toNat = dn at *
        go_enter Tryz.func118, Tryz.ntmps118
        go_wp2_with fail
        go_ret3
        exact ChrPost.of HC.out rfl (fun h => absurd h (by decide)) (Below.refl _ _)
  · rw [if_pos k2] at hch
    have q2n : ((c.toNat : Int) != 92) = true := by
      rw [bne_iff_ne]
      intro e
      exact k2 (u8_of (n := 92) (by decide) (by omega))
    have HC := Lib.hid hch
    clear hch k1 k2 hcons hc9
    go_enter Tryz.func118, Tryz.ntmps118
    go_wp2_with fail
    go_ret3
    exact ChrPost.of HC.out rfl (fun _ => ⟨rfl, rfl⟩) (Below.refl _ _)
end Go.Proofs.YtjehhldboopocaaGreatDoor.Lx
namespace Go.Proofs.YtjehhldboopocaaGreatDoor.Lx
open Go.RowKit Go.Lib
set_option linter.unusedVariables false
/-- A string's text and length without a limit. -/
def txtU : Nat → List UInt8 → List UInt8 → Nat → List UInt8 × Nat × Nat
  | 0, _, _, _ => ([], 0, 4)
  | _ + 1, [], _, _ => ([], 0, 4)
  | n + 1, c :: r, acc, k =>
    if c = 34 then (acc, k + 1, 0)
    else if (chrA (c :: r)).2.2 ≠ 0 then ([], 0, (chrA (c :: r)).2.2)
    else txtU n ((c :: r).drop (chrA (c :: r)).2.1) (acc ++ [(chrA (c :: r)).1]) (k + (chrA (c :: r)).2.1)
theorem txtU_cons (n : Nat) (c : UInt8) (r acc : List UInt8) (k : Nat) : txtU (n + 1) (c :: r) acc k = if c = 34 then (acc, k + 1, 0) else if (chrA (c :: r)).2.2 ≠ 0 then ([], 0, (chrA (c :: r)).2.2) else txtU n ((c :: r).drop (chrA (c :: r)).2.1) (acc ++ [(chrA (c :: r)).1]) (k + (chrA (c :: r)).2.1) := rfl
theorem txtN_U : ∀ (n : Nat) (l acc : List UInt8) (k : Nat), txtN n l acc k = if (txtU n l acc k).2.2 = 0 ∧ 4096 < (txtU n l acc k).1.length then ([], 0, 3) else txtU n l acc k
  | 0, l, acc, k => rfl
  | n + 1, [], acc, k => rfl
  | n + 1, c :: r, acc, k => by
    rw [txtU_cons]
    unfold txtN
    by_cases h1 : c = 34
    · rw [if_pos h1, if_pos h1]
      by_cases h2 : 4096 < acc.length
      · rw [if_pos h2, if_pos ⟨rfl, h2⟩]
      · rw [if_neg h2, if_neg (fun h => h2 h.2)]
    · rw [if_neg h1, if_neg h1]
      by_cases h2 : (chrA (c :: r)).2.2 ≠ 0
      · rw [if_pos h2, if_pos h2, if_neg (fun h => h2 h.1)]
      · rw [if_neg h2, if_neg h2]
        exact txtN_U n _ _ _
set_option maxHeartbeats 8000000 in
set_option maxRecDepth 100000 in
theorem unquoted_any (s : ByteArray) (h0 : 0 < s.size) (hs : s.size ≤ 1099511627776) (w : World) (hT : TabL w) :
    Calls Tryz.prog 78 #[.string s] w fun e w' => e = .returned (.tuple #[.string ⟨(txtU (s.data.toList.tail.length + 1) s.data.toList.tail [] 1).1.toArray⟩, .int .i64 ((txtU (s.data.toList.tail.length + 1) s.data.toList.tail [] 1).2.1 : Nat), .int .i64 ((txtU (s.data.toList.tail.length + 1) s.data.toList.tail [] 1).2.2 : Nat)]) ∧ Below w.heap.size w w' := by
  obtain ⟨i0, hi, hz0, hz1, hz2⟩ := info_parts info8
  have HT := Lib.hid hT
  have hl := lenB s
  have ht : s.data.toList.tail = s.data.toList.drop 1 := by rw [List.drop_one]
  obtain ⟨R, hR⟩ : ∃ R, R = txtU (s.data.toList.tail.length + 1) s.data.toList.tail [] 1 := ⟨_, rfl⟩
  rw [← hR]
  have HS0 := Lib.hid (show ∃ m, (s.data.toList.drop 1).length < m ∧ R = txtU m (s.data.toList.drop 1) [] 1 from ⟨_, Nat.lt_succ_self _, by rw [hR, ht]⟩)
  have h0I : (1 : Int) ≤ (s.size : Int) := by omega
  have hsI : (s.size : Int) ≤ 1099511627776 := by omega
  have CH := Lib.hid (fun x (hx : 0 < x.size) (hx2 : x.size ≤ 281474976710656) w h => character_any x hx hx2 w h)
  clear hT hR ht
  go_enter Tryz.func78, Tryz.ntmps78
  go_wp2_with fail
  go_loopw [5, 6] (fun s4 s5 wr => ∃ (k n : Nat) (acc : List UInt8), k ≤ s.size ∧ 1 ≤ k ∧ n = acc.length ∧ n ≤ k ∧ s5 = .int .i64 (k : Int) ∧ Hid (∃ m, (s.data.toList.drop k).length < m ∧ R = txtU m (s.data.toList.drop k) acc k) ∧ Hid (wr.ownsRow w.heap.size 5 1 s4 n (Lib.byteCells acc)) ∧ Hid (Below w.heap.size w wr)) (fun _ s5 _ => s.size - (RowKit.intOf s5).toNat)
  case atStart => exact ⟨1, 0, [], by omega, by omega, rfl, by omega, rfl, HS0, Lib.hid (World.ownsRow_nil _ _ _ _), Lib.hid (Below.refl _ _)⟩
  case round =>
    obtain ⟨k, n, acc, hk, hk1, hn, hnk, rfl, HR, HO, HB⟩ := hrel
    have hkI : (k : Int) ≤ 1099511627776 := by omega
    have hk0 : (1 : Int) ≤ (k : Int) := by omega
    by_cases hlt : k < s.size
    · have hltI : (k : Int) < (s.size : Int) := by omega
      have hk00 : (0 : Int) ≤ (k : Int) := by omega
      have hcons := drop_consB s k hlt
      have ix := fun w => ixS s (k : Int) k rfl hlt w
      obtain ⟨c, hc⟩ : ∃ c, c = s[k] := ⟨_, rfl⟩
      rw [← hc] at hcons ix
      have hc9 := c.toNat_lt
      have hcI : (0 : Int) ≤ (c.toNat : Int) ∧ (c.toNat : Int) ≤ 255 := by omega
      have HRc := Lib.hid (show ∃ m, s.size - k ≤ m ∧ R = txtU (m + 1) (c :: s.data.toList.drop (k + 1)) acc k from by
        obtain ⟨m, h1, h2⟩ := HR.out
        rw [List.length_drop] at h1
        rw [hcons] at h2
        cases m with
        | zero => omega
        | succ m => exact ⟨m, by omega, h2⟩)
      by_cases h34 : c = 34
      · have HE := Lib.hid (show R = (acc, k + 1, 0) from by
          obtain ⟨m, h1, h2⟩ := HRc.out
          rw [h2, txtU_cons, if_pos h34])
        subst h34
        obtain ⟨a1, c1, hv, hn1, hn2, hr1⟩ := own_reads (l := acc) HO.out hn
        subst hv
        have cv := conv_str a1 acc wr hr1 c1
        clear hcons HRc HR hc hc9
        go_wp2_with fail
        go_ret3
        exact ⟨by rw [HE.out]; rfl, HB.out⟩
      · have q1 : ((c.toNat : Int) == 34) = false := by
          rw [beq_eq_false_iff_ne]
          intro e
          exact h34 (u8_of (n := 34) (by decide) (by omega))
        have hxl := extract_drop s k
        have CHx := Lib.hid (fun w h => CH.out (s.extract k s.size) (by rw [← lenB, hxl, List.length_drop]; omega) (by rw [← lenB, hxl, List.length_drop]; omega) w h)
        rw [hxl, hcons] at CHx
        have sf := fun w => slice_fromS s k hk (by omega) w
        rw [show (⟨(s.data.toList.drop k).toArray⟩ : ByteArray) = s.extract k s.size from by rw [← hxl]] at sf
        have hca := chrA_app (c :: s.data.toList.drop (k + 1)) []
        have HC2 := Lib.hid (fun (h : (chrA (c :: s.data.toList.drop (k + 1))).2.2 = 0) => (hca h).2)
        have HQ := Lib.hid (show ∃ m, s.size - k ≤ m ∧ R = (if (chrA (c :: s.data.toList.drop (k + 1))).2.2 ≠ 0 then ([], 0, (chrA (c :: s.data.toList.drop (k + 1))).2.2) else txtU m (s.data.toList.drop (k + (chrA (c :: s.data.toList.drop (k + 1))).2.1)) (acc ++ [(chrA (c :: s.data.toList.drop (k + 1))).1]) (k + (chrA (c :: s.data.toList.drop (k + 1))).2.1)) from by
          obtain ⟨m, h1, h2⟩ := HRc.out
          rw [txtU_cons, if_neg h34] at h2
          refine ⟨m, h1, ?_⟩
          rw [h2, ← hcons, List.drop_drop])
        have hlen : (c :: s.data.toList.drop (k + 1)).length = s.size - k := by rw [← hcons, List.length_drop]; omega
        rw [hlen] at HC2
        obtain ⟨ca, hca2⟩ : ∃ ca, ca = chrA (c :: s.data.toList.drop (k + 1)) := ⟨_, rfl⟩
        unfold ChrPost at CHx
        rw [← hca2] at CHx HC2 HQ
        obtain ⟨xc, xn, xe⟩ := ca
        simp only at CHx HC2 HQ
        generalize s.extract k s.size = sx at sf CHx
        clear hca2 hlen hca hxl hcons HRc hc h34 HR
        go_wp2_with fail
        go_fit (CHx.out _ (HT.out.below HB.out))
        rintro e w1 ⟨cc, nn, rfl, hcn, hb⟩
        have HB1 := Lib.hid (HB.out.trans (hb.mono HB.out.size))
        have HO1 := Lib.hid (own_below HO.out hb)
        clear hb
        by_cases he : xe = 0
        · subst he
          obtain ⟨rfl, rfl⟩ := hcn rfl
          obtain ⟨n1, n2⟩ := HC2.out rfl
          have hxI : (0 : Int) ≤ (xc.toNat : Int) ∧ (xc.toNat : Int) ≤ 255 := by have := xc.toNat_lt; omega
          have hnI : (1 : Int) ≤ (xn : Int) ∧ (xn : Int) ≤ 1099511627776 := by omega
          have HQ2 := Lib.hid (show ∃ m, (s.data.toList.drop (k + xn)).length < m ∧ R = txtU m (s.data.toList.drop (k + xn)) (acc ++ [xc]) (k + xn) from by
            obtain ⟨m, h1, h2⟩ := HQ.out
            rw [if_neg (fun h => h rfl)] at h2
            exact ⟨m, by rw [List.length_drop]; omega, h2⟩)
          have HOA := Lib.hid (HO1.out.alloc (Obj.cells #[.int .u8 (xc.toNat : Int)] 5))
          have HBA := Lib.hid (HB1.out.alloc HB1.out.size (Obj.cells #[.int .u8 (xc.toNat : Int)] 5))
          have hzz := HB1.out.size
          clear hcn HQ HC2
          go_wp2_with (at_builtin; refine wpList_append_own _ rfl _ _ 46 rfl w.heap.size 5 i0 (.int .u8 0) 1 1 Tryz.underlying46 hi hz0 hz1 hz2 rfl (by decide) _ _ _ rfl HOA.out ⟨w1.heap.size, 0, none⟩ 1 1 [Value.int .u8 (xc.toNat : Int)] rfl rfl ?c1 ?c2 ?c3 ?c4 ?c5 ?_)
          case c1 =>
            intro j u hj
            match j, hj with
            | 0, hj => simp at hj; subst hj; simp [Addr.add]
          case c2 => intro u hu; simp at hu; subst hu; rfl
          case c3 => unfold maxLen; omega
          case c4 => omega
          case c5 => simp; omega
          intro v' w2 hown' hgrow _
          have HO2 := Lib.hid (show w2.ownsRow w.heap.size 5 1 v' (n + 1) (Lib.byteCells (acc ++ [xc])) by rw [byteCells_one, hn]; exact hown')
          have HB2 := Lib.hid (HBA.out.grown hgrow (by simp; omega) (fun k hk => (HOA.out.lt k hk).1))
          clear hown' hgrow HOA HBA
          go_wp2_with fail
          exact ⟨⟨k + xn, n + 1, acc ++ [xc], by omega, by omega, by simp; omega, by omega, by go_num, HQ2, HO2, HB2⟩, by simp [RowKit.intOf]; omega⟩
        · have q2 : ((xe : Int) != 0) = true := by rw [bne_iff_ne]; omega
          have HE := Lib.hid (show R = ([], 0, xe) from by
            obtain ⟨m, h1, h2⟩ := HQ.out
            rw [if_pos he] at h2
            exact h2)
          clear hcn HQ HC2 he
          go_wp2_with fail
          go_ret3
          exact ⟨by rw [HE.out]; rfl, HB1.out⟩
    · obtain rfl : k = s.size := by omega
      have HE := Lib.hid (show R = ([], 0, 4) from by
        obtain ⟨m, h1, h2⟩ := HR.out
        rw [List.drop_eq_nil_of_le (by omega)] at h2
        rw [h2]
        cases m with
        | zero => rfl
        | succ m => rfl)
      clear hlt HR
      go_wp2_with fail
      go_ret3
      exact ⟨by rw [HE.out]; rfl, HB.out⟩
end Go.Proofs.YtjehhldboopocaaGreatDoor.Lx
