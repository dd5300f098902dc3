/- The contract of the document's Valid (octets), by induction on the levels left. -/
import Derived.Test.YtfnjemocekgncaaFldD
import Derived.BigQuiet
import Derived.WalkSmall
namespace Go.Proofs.Ytfnjemocekgncaa
open Go.RowKit Go.Lib
set_option maxHeartbeats 4000000 in
set_option maxRecDepth 100000 in
theorem rvalid_bad (n : Nat) (k i : Int) (s : ByteArray) (v : Option Addr) (c : Nat) (l : List Fd) (hn : n < 129) (hbad : badB k i s l = true) (w : World) :
    Calls Try.prog 34 #[.agg #[.int .i64 k, .int .i64 i, .string s, .slice v l.length c], .int .i64 (128 - (n : Int))] w (ValidPost 1 w) := by
  have u0 : decide ((128 : Int) < 128 - (n : Int)) = false := by simp; omega
  unfold badB at hbad
  by_cases k0 : k = 0
  · subst k0
    rw [if_pos rfl] at hbad
    by_cases hs : s.toList = []
    · have hl : ¬ l = [] := by intro h; rw [hs, h] at hbad; simp at hbad
      have hs2 := str_empty hs
      have hl2 := list_full hl
      have hl3 : decide ((0 : Int) < (l.length : Int)) = true := by simp; omega
      clear hbad
      go_enter Try.func34, Try.ntmps34
      go_wp2_with fail
      go_quiet (fail)
      go_wp2_with fail
      go_ret
      exact ⟨rfl, by repeat (first | exact Below.refl _ _ | refine below_drewN ?_ _ | refine Below.setCell ?_ (by simp <;> omega) _ | refine Below.alloc ?_ (by simp <;> omega) _)⟩
    · have hs2 := str_full hs
      clear hbad
      go_enter Try.func34, Try.ntmps34
      go_wp2_with fail
      go_quiet (fail)
      go_wp2_with fail
      go_ret
      exact ⟨rfl, by repeat (first | exact Below.refl _ _ | refine below_drewN ?_ _ | refine Below.setCell ?_ (by simp <;> omega) _ | refine Below.alloc ?_ (by simp <;> omega) _)⟩
  · rw [if_neg k0] at hbad
    by_cases k1 : k = 1
    · subst k1
      rw [if_pos rfl] at hbad
      by_cases hi : i = 0
      · subst hi
        have hl : ¬ l = [] := by intro h; rw [h] at hbad; simp at hbad
        have hl2 := list_full hl
        have hl3 : decide ((0 : Int) < (l.length : Int)) = true := by simp; omega
        clear hbad k0
        go_enter Try.func34, Try.ntmps34
        go_wp2_with fail
        go_quiet (fail)
        go_wp2_with fail
        go_ret
        exact ⟨rfl, by repeat (first | exact Below.refl _ _ | refine below_drewN ?_ _ | refine Below.setCell ?_ (by simp <;> omega) _ | refine Below.alloc ?_ (by simp <;> omega) _)⟩
      · have hi2 : (i != 0) = true := by rw [bne_iff_ne]; exact hi
        clear hbad k0
        go_enter Try.func34, Try.ntmps34
        go_wp2_with fail
        go_quiet (fail)
        go_wp2_with fail
        go_ret
        exact ⟨rfl, by repeat (first | exact Below.refl _ _ | refine below_drewN ?_ _ | refine Below.setCell ?_ (by simp <;> omega) _ | refine Below.alloc ?_ (by simp <;> omega) _)⟩
    · rw [if_neg k1] at hbad
      by_cases k2 : k = 2
      · subst k2
        rw [if_pos rfl] at hbad
        by_cases hi : i = 0
        · subst hi
          have hs : ¬ s.toList = [] := by intro h; rw [h] at hbad; simp at hbad
          have hs2 := str_full hs
          clear hbad k0 k1
          go_enter Try.func34, Try.ntmps34
          go_wp2_with fail
          go_quiet (fail)
          go_wp2_with fail
          go_ret
          exact ⟨rfl, by repeat (first | exact Below.refl _ _ | refine below_drewN ?_ _ | refine Below.setCell ?_ (by simp <;> omega) _ | refine Below.alloc ?_ (by simp <;> omega) _)⟩
        · have hi2 : (i != 0) = true := by rw [bne_iff_ne]; exact hi
          clear hbad k0 k1
          go_enter Try.func34, Try.ntmps34
          go_wp2_with fail
          go_quiet (fail)
          go_wp2_with fail
          go_ret
          exact ⟨rfl, by repeat (first | exact Below.refl _ _ | refine below_drewN ?_ _ | refine Below.setCell ?_ (by simp <;> omega) _ | refine Below.alloc ?_ (by simp <;> omega) _)⟩
      · have e0 : (k == 0) = false := by rw [beq_eq_false_iff_ne]; exact k0
        have e1 : (k == 1) = false := by rw [beq_eq_false_iff_ne]; exact k1
        have e2 : (k == 2) = false := by rw [beq_eq_false_iff_ne]; exact k2
        clear hbad k0 k1 k2
        go_enter Try.func34, Try.ntmps34
        go_wp2_with fail
        go_quiet (fail)
        go_wp2_with fail
        go_ret
        exact ⟨rfl, by repeat (first | exact Below.refl _ _ | refine below_drewN ?_ _ | refine Below.setCell ?_ (by simp <;> omega) _ | refine Below.alloc ?_ (by simp <;> omega) _)⟩
/-- What the loop over the elements of a list needs of the levels below. -/
def RBelowOk (n : Nat) : Prop := ∀ (t : Int) (m : Nat) (k i : Int) (s : ByteArray) (v : Option Addr) (c : Nat) (l : List Fd) (w : World), t = 129 - (n : Int) → n ≤ 129 → l.length ≤ 9223372036854775807 → ReadsF m w v l →
    Calls Try.prog 34 #[.agg #[.int .i64 k, .int .i64 i, .string s, .slice v l.length c], .int .i64 t] w (ValidPost (vErr n (.mk k i s l)) w)

set_option maxHeartbeats 4000000 in
set_option maxRecDepth 100000 in
theorem rvalid_deep (k i : Int) (s : ByteArray) (v : Option Addr) (c : Nat) (n : Nat) (w : World) :
    Calls Try.prog 34 #[.agg #[.int .i64 k, .int .i64 i, .string s, .slice v n c], .int .i64 129] w (ValidPost 13 w) := by
  go_enter Try.func34, Try.ntmps34
  go_wp2_with fail
  go_ret
  exact ⟨rfl, by repeat (first | exact Below.refl _ _ | refine below_drewN ?_ _ | refine Below.setCell ?_ (by simp <;> omega) _ | refine Below.alloc ?_ (by simp <;> omega) _)⟩

set_option maxHeartbeats 4000000 in
set_option maxRecDepth 100000 in
theorem rvalid_list (n : Nat) (ih : Hid (RBelowOk n)) (s : ByteArray) (v : Option Addr) (c m : Nat) (l : List Fd) (hn : n < 129) (hlen : l.length ≤ 9223372036854775807) (hs : s.toList = []) (w : World) (hr : ReadsF m w v l) :
    Calls Try.prog 34 #[.agg #[.int .i64 2, .int .i64 0, .string s, .slice v l.length c], .int .i64 (128 - (n : Int))] w (ValidPost (firstOf (vErr n) l) w) := by
  have u0 : decide ((128 : Int) < 128 - (n : Int)) = false := by simp; omega
  have hs2 := str_empty hs
  have HR := Lib.hid hr
  clear hr
  go_enter Try.func34, Try.ntmps34
  go_wp2_with fail
  go_quiet (fail)
  go_wp2_with fail
  go_loopw [8, 9] (fun s8 _ wr => ∃ j : Nat, j ≤ l.length ∧ firstOf (vErr n) l = firstOf (vErr n) (l.drop j) ∧ s8 = .int .i64 j ∧ Below w.heap.size w wr ∧ wr.cell? ⟨w.heap.size, 3, none⟩ = some (.slice v l.length c) ∧ w.heap.size < wr.heap.size) (fun s8 _ _ => l.length - (RowKit.intOf s8).toNat)
  case atStart => exact ⟨0, by omega, rfl, rfl, (by repeat (first | exact Below.refl _ _ | refine below_drewN ?_ _ | refine Below.setCell ?_ (by simp <;> omega) _ | refine Below.alloc ?_ (by simp <;> omega) _)), by simp [go_sem], by simp [go_sem]⟩
  case round =>
    obtain ⟨j, hj, hf, rfl, hbel, hc3, hsz⟩ := hrel
    have HB := Lib.hid hbel
    have hz := hbel.size
    have HF := Lib.hid hf
    clear hbel hf hs
    by_cases hlt : j < l.length
    · cases m with
      | zero => exact absurd hlt (by have h : l = [] := HR.out; rw [h]; simp)
      | succ m =>
        obtain ⟨b, off, k, i, s', av, c', l', h0, rfl, h2, h3, h4, h5, h6, h7, h8, h9, h10, h11, h12⟩ := HR.out j hlt
        have HR' := Lib.hid (ReadsF.below HB.out m av l' h12)
        have g3 := (HB.out.cell (p := ⟨b, _, none⟩) h2).trans h3
        have g4 := (HB.out.cell (p := ⟨b, _, none⟩) h2).trans h4
        have g5 := (HB.out.cell (p := ⟨b, _, none⟩) h2).trans h5
        have g6 := (HB.out.cell (p := ⟨b, _, none⟩) h2).trans h6
        have H0 := Lib.hid h0
        clear h0 h2 h3 h4 h5 h6 h7 h8 h9 h10 h12
        have hstep := firstOf_drop (vErr n) l j _ H0.out
        rw [← HF.out] at hstep
        obtain ⟨r, hr⟩ : ∃ r, r = vErr n (.mk k i s' l') := ⟨_, rfl⟩
        rw [← hr] at hstep
        have IH := Lib.hid (fun w => ih.out (128 - (n : Int) + 1) m k i s' av c' l' w (by omega) (by omega) h11)
        rw [← hr] at IH
        have HSTEP := Lib.hid hstep
        clear hr hstep
        go_wp2_with fail
        go_fit (IH.out _ HR'.out)
        rintro e w2 ⟨rfl, hb2⟩
        have HB2 := Lib.hid (HB.out.trans (hb2.mono hz))
        have hc4 := (hb2.cell (p := ⟨w.heap.size, 3, none⟩) hsz).trans hc3
        have hsz2 : w.heap.size < w2.heap.size := by have := hb2.size; omega
        clear hb2
        by_cases hr0 : r = 0
        · have u1 : ((r : Int) != 0) = false := by rw [bne_eq_false_iff_eq]; omega
          have HN := Lib.hid (show firstOf (vErr n) l = firstOf (vErr n) (l.drop (j + 1)) by rw [HSTEP.out, if_neg (by omega)])
          clear hr0
          go_wp2_with fail
          exact ⟨⟨j + 1, by omega, HN.out, by go_num, HB2.out, hc4, hsz2⟩, by simp [RowKit.intOf]; omega⟩
        · have u1 : ((r : Int) != 0) = true := by rw [bne_iff_ne]; omega
          have HN := Lib.hid (show firstOf (vErr n) l = r by rw [HSTEP.out, if_pos hr0])
          clear hr0
          go_wp2_with fail
          go_ret
          exact ⟨ret_int' (by rw [HN.out]), HB2.out⟩
    · obtain rfl : j = l.length := by omega
      have HE := Lib.hid (show firstOf (vErr n) l = 0 by rw [HF.out, List.drop_length]; rfl)
      go_wp2_with fail
      go_ret
      exact ⟨ret_int' (by rw [HE.out]; rfl), HB.out⟩

set_option maxHeartbeats 4000000 in
set_option maxRecDepth 100000 in
theorem rvalid_plain (n : Nat) (k i : Int) (s : ByteArray) (v : Option Addr) (c : Nat) (l : List Fd) (hn : n < 129) (hok : (k = 0 ∧ s.toList = []) ∨ (k = 1 ∧ i = 0)) (hl : l.length = 0) (w : World) :
    Calls Try.prog 34 #[.agg #[.int .i64 k, .int .i64 i, .string s, .slice v l.length c], .int .i64 (128 - (n : Int))] w (ValidPost 0 w) := by
  have u0 : decide ((128 : Int) < 128 - (n : Int)) = false := by simp; omega
  rw [hl]
  rcases hok with ⟨rfl, hs⟩ | ⟨rfl, rfl⟩
  · have hs2 := str_empty hs
    clear hl
    go_enter Try.func34, Try.ntmps34
    go_wp2_with fail
    go_quiet (fail)
    go_wp2_with fail
    go_loop [8, 9] (fun s8 _ => s8 = .int .i64 0) (fun s8 _ => 0)
    case atStart => rfl
    case round =>
      obtain rfl := hrel
      go_wp2_with fail
      go_ret
      exact ⟨rfl, by repeat (first | exact Below.refl _ _ | refine below_drewN ?_ _ | refine Below.setCell ?_ (by simp <;> omega) _ | refine Below.alloc ?_ (by simp <;> omega) _)⟩
  · clear hl
    go_enter Try.func34, Try.ntmps34
    go_wp2_with fail
    go_quiet (fail)
    go_wp2_with fail
    go_loop [8, 9] (fun s8 _ => s8 = .int .i64 0) (fun s8 _ => 0)
    case atStart => rfl
    case round =>
      obtain rfl := hrel
      go_wp2_with fail
      go_ret
      exact ⟨rfl, by repeat (first | exact Below.refl _ _ | refine below_drewN ?_ _ | refine Below.setCell ?_ (by simp <;> omega) _ | refine Below.alloc ?_ (by simp <;> omega) _)⟩

theorem rvalid_all : ∀ n : Nat, RBelowOk n
  | 0 => by
    intro t m k i s v c l w ht _ _ _
    obtain rfl : t = 129 := by omega
    exact rvalid_deep k i s v c l.length w
  | n + 1 => by
    intro t m k i s v c l w ht hn hlen hr
    obtain rfl : t = 128 - (n : Int) := by omega
    unfold vErr
    by_cases hb : badB k i s l = true
    · rw [if_pos hb]
      exact rvalid_bad n k i s v c l (by omega) hb w
    · rw [if_neg hb]
      have hb' : badB k i s l = false := by simpa using hb
      unfold badB at hb'
      by_cases k0 : k = 0
      · rw [if_pos k0] at hb'
        have h1 : s.toList = [] ∧ l = [] := by simpa using hb'
        rw [show firstOf (vErr n) l = 0 by rw [h1.2]; rfl]
        exact rvalid_plain n k i s v c l (by omega) (.inl ⟨k0, h1.1⟩) (by rw [h1.2]; rfl) w
      · rw [if_neg k0] at hb'
        by_cases k1 : k = 1
        · rw [if_pos k1] at hb'
          have h1 : i = 0 ∧ l = [] := by simpa using hb'
          rw [show firstOf (vErr n) l = 0 by rw [h1.2]; rfl]
          exact rvalid_plain n k i s v c l (by omega) (.inr ⟨k1, h1.1⟩) (by rw [h1.2]; rfl) w
        · rw [if_neg k1] at hb'
          by_cases k2 : k = 2
          · rw [if_pos k2] at hb'
            have h1 : i = 0 ∧ s.toList = [] := by simpa using hb'
            obtain ⟨rfl, hs⟩ := h1
            subst k2
            exact rvalid_list n (rvalid_all n) s v c m l (by omega) hlen hs w hr
          · rw [if_neg k2] at hb'; cases hb'

set_option maxHeartbeats 4000000 in
theorem refValid_any (m : Nat) (k i : Int) (s : ByteArray) (v : Option Addr) (c : Nat) (l : List Fd) (hlen : l.length ≤ 9223372036854775807) (w : World) (hr : ReadsF m w v l) :
    Calls Try.prog 24 #[.agg #[.int .i64 k, .int .i64 i, .string s, .slice v l.length c]] w (ValidPost (vErr 128 (.mk k i s l)) w) := by
  have HR := Lib.hid hr
  clear hr
  go_enter Try.func24, Try.ntmps24
  go_wp2_with fail
  go_fit (rvalid_all 128 1 m k i s v c l _ (by omega) (by omega) hlen (ReadsF.below ((Below.refl w.heap.size w).alloc (Nat.le_refl _) _) m v l HR.out))
  rintro e w1 ⟨rfl, hb⟩
  have HB := Lib.hid (((Below.refl w.heap.size w).alloc (Nat.le_refl _) _).trans (hb.mono (by simp)))
  clear hb
  go_wp2_with fail
  go_ret
  exact ⟨rfl, HB.out⟩
end Go.Proofs.Ytfnjemocekgncaa
