/- Contracts of functions of the program, and what they are made of (parser; Pk03). -/
import Derived.Test.YtjehhldboopocaaGreatDoorPk02
import Derived.Deep.RegionHeld3
import Derived.Deep.QuietTactic
import Derived.BigQuiet
import Derived.Deep.DeepCutAuto
import Derived.Lib.OthersKept
import Derived.Laws.RangeAny
namespace Go.Proofs.YtjehhldboopocaaGreatDoor.Lx
open Go.RowKit Go.Lib
set_option linter.unusedVariables false
/-- A token as it lies in memory. -/
structure Tm where
  kind : Int
  text : List UInt8
  pos : Int
def Tk.tm (t : Tk) : Tm := ⟨t.kind, t.text, (t.at_ : Int)⟩
/-- A slice of tokens reads as a list of them. -/
def ReadsK (w : World) (v : Option Addr) (l : List Tm) : Prop := ∀ j (_ : j < l.length), ∃ b off, v = some ⟨b, off, none⟩ ∧ b < w.heap.size ∧ w.cell? ⟨b, off + j * 3, none⟩ = some (.int .i64 l[j].kind) ∧ w.cell? ⟨b, off + j * 3 + 1, none⟩ = some (.string ⟨l[j].text.toArray⟩) ∧ w.cell? ⟨b, off + j * 3 + 2, none⟩ = some (.int .i64 l[j].pos)
theorem ReadsK.below {w w' : World} {v : Option Addr} {l : List Tm} (h : ReadsK w v l) (hb : Below w.heap.size w w') : ReadsK w' v l := by
  intro j hj
  obtain ⟨b, off, h1, h2, c0, c1, c2⟩ := h j hj
  exact ⟨b, off, h1, Nat.lt_of_lt_of_le h2 hb.size, (hb.cell (p := ⟨b, _, none⟩) h2).trans c0, (hb.cell (p := ⟨b, _, none⟩) h2).trans c1, (hb.cell (p := ⟨b, _, none⟩) h2).trans c2⟩
/-- Do tokens agree, with their indices or without? -/
def AgreeK (ix : Bool) (l m : List Tm) : Prop := l.length = m.length ∧ ∀ j (h : j < l.length) (g : j < m.length), l[j].kind = m[j].kind ∧ l[j].text = m[j].text ∧ (ix = true → l[j].pos = m[j].pos)
theorem AgreeK.rfl (ix : Bool) (l : List Tm) : AgreeK ix l l := ⟨_root_.rfl, fun _ _ _ => ⟨_root_.rfl, _root_.rfl, fun _ => _root_.rfl⟩⟩
end Go.Proofs.YtjehhldboopocaaGreatDoor.Lx
namespace Go.Proofs.YtjehhldboopocaaGreatDoor.Lx
open Go.RowKit Go.Lib
set_option linter.unusedVariables false
/-- The class of a character. -/
def clsK (c : Int) : Int := if (97 ≤ c ∧ c ≤ 122) ∨ (65 ≤ c ∧ c ≤ 90) ∨ c = 95 then 1 else if 48 ≤ c ∧ c ≤ 57 then 2 else if c = 34 then 3 else if c = 10 then 5 else 4
set_option maxHeartbeats 2000000 in
theorem class_any (c : Int) (w : World) : Calls Tryz.prog 74 #[.int .i32 c] w fun e w' => e = .returned (.int .i64 (clsK c)) ∧ w = w' := by
  rcases (show (97 ≤ c ∧ c ≤ 122) ∨ (122 < c) ∨ (65 ≤ c ∧ c ≤ 90) ∨ (c = 95) ∨ (91 ≤ c ∧ c ≤ 96 ∧ c ≠ 95) ∨ (48 ≤ c ∧ c ≤ 57) ∨ (58 ≤ c ∧ c ≤ 64) ∨ (c = 34) ∨ (c = 10) ∨ (c ≤ 47 ∧ c ≠ 34 ∧ c ≠ 10) by omega) with h | h | h | h | h | h | h | h | h | h
  · have hv := Lib.hid (show clsK c = 1 by unfold clsK; (repeat' split) <;> omega)
    have q0 : (97 : Int) ≤ c := by omega
    have q1 : c ≤ (122 : Int) := by omega
    clear h
    go_enter Tryz.func74, Tryz.ntmps74
    go_wp2_with fail
    go_ret
    exact ⟨by rw [hv.out]; rfl, rfl⟩
  · have hv := Lib.hid (show clsK c = 4 by unfold clsK; (repeat' split) <;> omega)
    have q0 : (97 : Int) ≤ c := by omega
    have q1 : ¬ c ≤ (122 : Int) := by omega
    have q2 : (65 : Int) ≤ c := by omega
    have q3 : ¬ c ≤ (90 : Int) := by omega
    have q4 : (48 : Int) ≤ c := by omega
    have q5 : ¬ c ≤ (57 : Int) := by omega
    have q6 : (c == 95) = false := by rw [beq_eq_false_iff_ne]; omega
    have q7 : (c == 34) = false := by rw [beq_eq_false_iff_ne]; omega
    have q8 : (c == 10) = false := by rw [beq_eq_false_iff_ne]; omega
    clear h
    go_enter Tryz.func74, Tryz.ntmps74
    go_wp2_with fail
    go_ret
    exact ⟨by rw [hv.out]; rfl, rfl⟩
  · have hv := Lib.hid (show clsK c = 1 by unfold clsK; (repeat' split) <;> omega)
    have q0 : ¬ (97 : Int) ≤ c := by omega
    have q1 : (65 : Int) ≤ c := by omega
    have q2 : c ≤ (90 : Int) := by omega
    clear h
    go_enter Tryz.func74, Tryz.ntmps74
    go_wp2_with fail
    go_ret
    exact ⟨by rw [hv.out]; rfl, rfl⟩
  · have hv := Lib.hid (show clsK c = 1 by unfold clsK; (repeat' split) <;> omega)
    have q0 : ¬ (97 : Int) ≤ c := by omega
    have q1 : (65 : Int) ≤ c := by omega
    have q2 : ¬ c ≤ (90 : Int) := by omega
    have q3 : (c == 95) = true := by rw [beq_iff_eq]; omega
    clear h
    go_enter Tryz.func74, Tryz.ntmps74
    go_wp2_with fail
    go_ret
    exact ⟨by rw [hv.out]; rfl, rfl⟩
  · have hv := Lib.hid (show clsK c = 4 by unfold clsK; (repeat' split) <;> omega)
    have q0 : ¬ (97 : Int) ≤ c := by omega
    have q1 : (65 : Int) ≤ c := by omega
    have q2 : ¬ c ≤ (90 : Int) := by omega
    have q3 : (48 : Int) ≤ c := by omega
    have q4 : ¬ c ≤ (57 : Int) := by omega
    have q5 : (c == 95) = false := by rw [beq_eq_false_iff_ne]; omega
    have q6 : (c == 34) = false := by rw [beq_eq_false_iff_ne]; omega
    have q7 : (c == 10) = false := by rw [beq_eq_false_iff_ne]; omega
    clear h
    go_enter Tryz.func74, Tryz.ntmps74
    go_wp2_with fail
    go_ret
    exact ⟨by rw [hv.out]; rfl, rfl⟩
  · have hv := Lib.hid (show clsK c = 2 by unfold clsK; (repeat' split) <;> omega)
    have q0 : ¬ (97 : Int) ≤ c := by omega
    have q1 : ¬ (65 : Int) ≤ c := by omega
    have q2 : (48 : Int) ≤ c := by omega
    have q3 : c ≤ (57 : Int) := by omega
    have q4 : (c == 95) = false := by rw [beq_eq_false_iff_ne]; omega
    clear h
    go_enter Tryz.func74, Tryz.ntmps74
    go_wp2_with fail
    go_ret
    exact ⟨by rw [hv.out]; rfl, rfl⟩
  · have hv := Lib.hid (show clsK c = 4 by unfold clsK; (repeat' split) <;> omega)
    have q0 : ¬ (97 : Int) ≤ c := by omega
    have q1 : ¬ (65 : Int) ≤ c := by omega
    have q2 : (48 : Int) ≤ c := by omega
    have q3 : ¬ c ≤ (57 : Int) := by omega
    have q4 : (c == 95) = false := by rw [beq_eq_false_iff_ne]; omega
    have q5 : (c == 34) = false := by rw [beq_eq_false_iff_ne]; omega
    have q6 : (c == 10) = false := by rw [beq_eq_false_iff_ne]; omega
    clear h
    go_enter Tryz.func74, Tryz.ntmps74
    go_wp2_with fail
    go_ret
    exact ⟨by rw [hv.out]; rfl, rfl⟩
  · have hv := Lib.hid (show clsK c = 3 by unfold clsK; (repeat' split) <;> omega)
    have q0 : ¬ (97 : Int) ≤ c := by omega
    have q1 : ¬ (65 : Int) ≤ c := by omega
    have q2 : ¬ (48 : Int) ≤ c := by omega
    have q3 : (c == 95) = false := by rw [beq_eq_false_iff_ne]; omega
    have q4 : (c == 34) = true := by rw [beq_iff_eq]; omega
    clear h
    go_enter Tryz.func74, Tryz.ntmps74
    go_wp2_with fail
    go_ret
    exact ⟨by rw [hv.out]; rfl, rfl⟩
  · have hv := Lib.hid (show clsK c = 5 by unfold clsK; (repeat' split) <;> omega)
    have q0 : ¬ (97 : Int) ≤ c := by omega
    have q1 : ¬ (65 : Int) ≤ c := by omega
    have q2 : ¬ (48 : Int) ≤ c := by omega
    have q3 : (c == 95) = false := by rw [beq_eq_false_iff_ne]; omega
    have q4 : (c == 34) = false := by rw [beq_eq_false_iff_ne]; omega
    have q5 : (c == 10) = true := by rw [beq_iff_eq]; omega
    clear h
    go_enter Tryz.func74, Tryz.ntmps74
    go_wp2_with fail
    go_ret
    exact ⟨by rw [hv.out]; rfl, rfl⟩
  · have hv := Lib.hid (show clsK c = 4 by unfold clsK; (repeat' split) <;> omega)
    have q0 : ¬ (97 : Int) ≤ c := by omega
    have q1 : ¬ (65 : Int) ≤ c := by omega
    have q2 : ¬ (48 : Int) ≤ c := by omega
    have q3 : (c == 95) = false := by rw [beq_eq_false_iff_ne]; omega
    have q4 : (c == 34) = false := by rw [beq_eq_false_iff_ne]; omega
    have q5 : (c == 10) = false := by rw [beq_eq_false_iff_ne]; omega
    clear h
    go_enter Tryz.func74, Tryz.ntmps74
    go_wp2_with fail
    go_ret
    exact ⟨by rw [hv.out]; rfl, rfl⟩
theorem limited_any (s : ByteArray) (m : Int) (w : World) : Calls Tryz.prog 119 #[.string s, .int .i64 m] w fun e w' => e = .returned (.int .i64 (if m < (s.size : Int) then 3 else 0)) ∧ w = w' := by
  by_cases h : m < (s.size : Int)
  · rw [if_pos h]
    go_enter Tryz.func119, Tryz.ntmps119
    go_wp2_with fail
    go_ret
    exact ⟨rfl, rfl⟩
  · rw [if_neg h]
    go_enter Tryz.func119, Tryz.ntmps119
    go_wp2_with fail
    go_ret
    exact ⟨rfl, rfl⟩
/-- The closure that tells a name's characters; the class function lies in the block B. -/
def ClsAt (w : World) (B : Nat) : Prop := w.cell? ⟨B, 0, none⟩ = some (.func (.func 74) #[] #[])
theorem ClsAt.below {w w' : World} {B : Nat} (h : ClsAt w B) (hb : Below w.heap.size w w') : ClsAt w' B := (hb.cell (p := ⟨B, 0, none⟩) (World.block_lt_of_cell? w _ h)).trans h
set_option maxHeartbeats 2000000 in
theorem inName_any (c : Int) (B : Nat) (w : World) (hB : ClsAt w B) : Calls Tryz.prog 75 #[.int .i32 c, .pointer (some ⟨B, 0, none⟩)] w fun e w' => e = .returned (.bool (clsK c == 1 || clsK c == 2)) ∧ w = w' := by
  have CL := Lib.hid (fun w => class_any c w)
  have h0 : w.cell? ⟨B, 0, none⟩ = some (.func (.func 74) #[] #[]) := hB
  generalize clsK c = k at CL
  cases q1 : (k == 1)
  · cases q2 : (k == 2)
    · go_enter Tryz.func75, Tryz.ntmps75
      go_wp2_with fail
      go_fit (CL.out _)
      rintro e w1 ⟨rfl, rfl⟩
      go_wp2_with fail
      go_fit (CL.out _)
      rintro e w1 ⟨rfl, rfl⟩
      go_wp2_with fail
      go_ret
      exact ⟨rfl, rfl⟩
    · go_enter Tryz.func75, Tryz.ntmps75
      go_wp2_with fail
      go_fit (CL.out _)
      rintro e w1 ⟨rfl, rfl⟩
      go_wp2_with fail
      go_fit (CL.out _)
      rintro e w1 ⟨rfl, rfl⟩
      go_wp2_with fail
      go_ret
      exact ⟨rfl, rfl⟩
  · go_enter Tryz.func75, Tryz.ntmps75
    go_wp2_with fail
    go_fit (CL.out _)
    rintro e w1 ⟨rfl, rfl⟩
    go_wp2_with fail
    go_ret
    exact ⟨rfl, rfl⟩
end Go.Proofs.YtjehhldboopocaaGreatDoor.Lx
namespace Go.Proofs.YtjehhldboopocaaGreatDoor.Lx
open Go.RowKit Go.Lib
set_option linter.unusedVariables false
theorem lenB (s : ByteArray) : s.data.toList.length = s.size := by rw [Array.length_toList]; rfl
theorem drop_consB (s : ByteArray) (i : Nat) (h : i < s.size) : s.data.toList.drop i = s[i] :: s.data.toList.drop (i + 1) := List.drop_eq_getElem_cons (by rw [Array.length_toList]; exact h)
theorem clsK_wrd (c : UInt8) : (clsK (c.toNat : Int) == 1 || clsK (c.toNat : Int) == 2) = wrdB c := by
  have hc := c.toNat_lt
  unfold clsK wrdB letB dgB
  by_cases h1 : (97 ≤ (c.toNat : Int) ∧ (c.toNat : Int) ≤ 122) ∨ (65 ≤ (c.toNat : Int) ∧ (c.toNat : Int) ≤ 90) ∨ (c.toNat : Int) = 95
  · rw [if_pos h1]
    have h2 : (97 ≤ c.toNat ∧ c.toNat ≤ 122) ∨ (65 ≤ c.toNat ∧ c.toNat ≤ 90) ∨ c.toNat = 95 := by omega
    rcases h2 with h2 | h2 | h2
    · simp [h2.1, h2.2]
    · simp [h2.1, h2.2]
    · simp [h2]
  · rw [if_neg h1]
    by_cases h3 : 48 ≤ (c.toNat : Int) ∧ (c.toNat : Int) ≤ 57
    · rw [if_pos h3]
      have h4 : 48 ≤ c.toNat ∧ c.toNat ≤ 57 := by omega
      simp [h4.1, h4.2]
    · rw [if_neg h3]
      have e : ((decide (97 ≤ c.toNat) && decide (c.toNat ≤ 122) || decide (65 ≤ c.toNat) && decide (c.toNat ≤ 90) || decide (c.toNat = 95)) || (decide (48 ≤ c.toNat) && decide (c.toNat ≤ 57))) = false := by
        simp
        omega
      rw [e]
      split
      · rfl
      · split <;> rfl
theorem clsK_high {r : Int} (h : 128 ≤ r) : clsK r = 4 := by
  unfold clsK
  rw [if_neg (by omega), if_neg (by omega), if_neg (by omega), if_neg (by omega)]
theorem slice_to (s : ByteArray) (k : Nat) (hk : k ≤ s.size) (w : World) : (Instr.sliceAt 9 (.string s) none (some (.int .i64 (k : Int))) none).run Tryz.prog w = .ok (.string ⟨(s.data.toList.take k).toArray⟩) w := by
  rw [run_sliceAt_string _ _ _ _ _ _ Tryz.underlying9, run_slice_string_to_if w 9 s .i64 (k : Int) Tryz.underlying9]
  rw [if_pos (by omega)]
  congr 2
  apply ByteArray.ext
  rw [ByteArray.data_extract]
  apply Array.ext'
  simp
theorem tw_at {p : UInt8 → Bool} (l : List UInt8) (n : Nat) (h : ∀ j (_ : j < n) (hl : j < l.length), p l[j] = true) (hn : n ≤ l.length) (hs : ∀ h : n < l.length, p l[n] = false) : l.takeWhile p = l.take n := by
  induction l generalizing n with
  | nil => simp
  | cons a l ih =>
    cases n with
    | zero =>
      have := hs (by simp)
      simp only [List.getElem_cons_zero] at this
      rw [List.takeWhile_cons, this]
      rfl
    | succ n =>
      have h0 := h 0 (by omega) (by simp)
      simp only [List.getElem_cons_zero] at h0
      rw [List.takeWhile_cons, h0, if_pos rfl, List.take_succ_cons]
      congr 1
      exact ih n (fun j hj hl => by have := h (j + 1) (by omega) (by simp; omega); simpa using this) (by simpa using hn) (fun hl => by have := hs (by simp; omega); simpa using this)
set_option maxHeartbeats 4000000 in
set_option maxRecDepth 100000 in
theorem prefix_any (s : ByteArray) (B : Nat) (w : World) (hB : ClsAt w B) :
    Calls Tryz.prog 76 #[.string s, .func (.func 75) #[] #[.pointer (some ⟨B, 0, none⟩)]] w fun e w' => e = .returned (.string ⟨(s.data.toList.takeWhile wrdB).toArray⟩) ∧ Below w.heap.size w w' := by
  have HB := Lib.hid hB
  have IN := Lib.hid (fun c w h => inName_any c B w h)
  have hl := lenB s
  clear hB
  go_enter Tryz.func76, Tryz.ntmps76
  go_wp2_with fail
  go_loopw [] (fun wr => ∃ pos : Nat, pos ≤ s.size ∧ Hid (wr.heap[w.heap.size]? = some (.stringIter s pos)) ∧ Hid (Below w.heap.size w wr) ∧ Hid (∀ j (_ : j < pos) (hl : j < s.data.toList.length), wrdB s.data.toList[j] = true)) (fun wr => s.size - wr.iterPos w.heap.size)
  case atStart => exact ⟨0, Nat.zero_le _, Lib.hid (World.iter_heap w s 0), Lib.hid ((Below.refl _ _).alloc (Nat.le_refl _) _), Lib.hid (fun j hj => by omega)⟩
  case round =>
    obtain ⟨pos, hps, HI, HW, HJ⟩ := hrel
    have hlw : w.heap.size < wr.heap.size := (Array.getElem?_eq_some_iff.1 HI.out).1
    by_cases hp : pos < s.size
    · have hsp : s.data.toList[pos]'(by omega) = s[pos] := rfl
      obtain ⟨r, d, hdec, hd1, hcls⟩ : ∃ r d : Nat, Utf8.decode s pos = (r, d) ∧ (wrdB s[pos] = true → d = 1) ∧ (clsK (r : Int) == 1 || clsK (r : Int) == 2) = wrdB s[pos] := by
        by_cases ha : (s[pos]'hp).toNat < 128
        · exact ⟨_, _, decode_ascii s pos hp ha, fun _ => rfl, clsK_wrd _⟩
        · have h := decode_high s pos hp (by omega)
          generalize Utf8.decode s pos = rd at h ⊢
          obtain ⟨r, d⟩ := rd
          have hr : 128 ≤ r := h.1
          clear h
          refine ⟨r, d, rfl, fun hw => ?_, ?_⟩
          · unfold wrdB letB dgB at hw
            simp at hw
            omega
          · rw [clsK_high (by omega)]
            have : wrdB s[pos] = false := by
              unfold wrdB letB dgB
              simp
              omega
            rw [this]
            rfl
      have hnx : ∀ ty, (Instr.next (.pointer (some ⟨w.heap.size, 0, none⟩)) true ty).run Tryz.prog wr = .ok (.tuple #[.bool true, .int .i64 pos, .int .i32 r]) (wr.iterAt w.heap.size s (pos + d)) := fun ty => by
        have h := run_next_any_at (P := Tryz.prog) wr w.heap.size s pos ty HI.out hp
        rw [hdec] at h
        exact h
      have HI1 := Lib.hid (Lib.iterAt_heap wr w.heap.size s pos (pos + d) HI.out)
      have HW1 := Lib.hid (Lib.below_iterAt HW.out (Nat.le_refl _) s (pos + d))
      have INr := Lib.hid (fun w h => IN.out (r : Int) w h)
      rw [hcls] at INr
      have st := slice_to s pos hps
      generalize wr.iterAt w.heap.size s (pos + d) = W1 at *
      cases hw : wrdB s[pos]
      · rw [hw] at INr
        have HT := Lib.hid (show s.data.toList.takeWhile wrdB = s.data.toList.take pos from tw_at _ pos (fun j hj hl => HJ.out j hj hl) (by omega) (fun h => by rw [hsp]; exact hw))
        clear hdec hd1 hcls hsp hw hlw
        go_wp2_with fail
        go_fit (INr.out _ (HB.out.below HW1.out))
        rintro e w1 ⟨rfl, rfl⟩
        go_wp2_with fail
        go_ret
        exact ⟨by rw [HT.out]; rfl, HW1.out⟩
      · rw [hw] at INr
        obtain rfl : d = 1 := hd1 hw
        have HJ1 := Lib.hid (show ∀ j (_ : j < pos + 1) (hl : j < s.data.toList.length), wrdB s.data.toList[j] = true from fun j hj hl => by
          by_cases e : j = pos
          · subst e
            exact hw
          · exact HJ.out j (by omega) hl)
        have hm1 : W1.iterPos w.heap.size = pos + 1 := by unfold World.iterPos; rw [HI1.out]
        have hm0 : wr.iterPos w.heap.size = pos := by unfold World.iterPos; rw [HI.out]
        clear hdec hd1 hcls hsp hw hlw
        go_wp2_with fail
        go_fit (INr.out _ (HB.out.below HW1.out))
        rintro e w1 ⟨rfl, rfl⟩
        go_wp2_with fail
        exact ⟨⟨pos + 1, by omega, HI1, HW1, HJ1⟩, by rw [hm1, hm0]; omega⟩
    · have hnx : ∀ ty, (Instr.next (.pointer (some ⟨w.heap.size, 0, none⟩)) true ty).run Tryz.prog wr = .ok (.tuple #[.bool false]) wr := fun ty => run_next_end_at wr w.heap.size s pos ty HI.out hp
      have HT := Lib.hid (show (⟨(s.data.toList.takeWhile wrdB).toArray⟩ : ByteArray) = s from by
        rw [tw_at s.data.toList s.size (fun j hj hl => HJ.out j (by omega) hl) (by omega) (fun h => by omega), List.take_of_length_le (by omega)])
      clear hlw
      go_wp2_with fail
      go_ret
      exact ⟨by rw [HT.out]; rfl, HW.out⟩
end Go.Proofs.YtjehhldboopocaaGreatDoor.Lx
