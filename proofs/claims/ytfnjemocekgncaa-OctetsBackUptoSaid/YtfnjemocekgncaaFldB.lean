/- The contract of octets.Valid, by induction on the levels left. -/
import Derived.Test.YtfnjemocekgncaaFldA
namespace Go.Proofs.Ytfnjemocekgncaa
open Go.RowKit Go.Lib

theorem ret_int' {a b : Int} (h : a = b) : Ending.returned (.int .i64 a) = .returned (.int .i64 b) := by rw [h]
theorem firstOf_drop (g : Fd → Nat) (l : List Fd) (j : Nat) (x : Fd) (h : l[j]? = some x) : firstOf g (l.drop j) = if g x ≠ 0 then g x else firstOf g (l.drop (j + 1)) := by
  obtain ⟨hj, rfl⟩ := List.getElem?_eq_some_iff.1 h
  rw [List.drop_eq_getElem_cons hj]
  rfl
/-- What the loop over the elements of a list needs of the levels below. -/
def BelowOk (n : Nat) : Prop := ∀ (t : Int) (m : Nat) (k i : Int) (s : ByteArray) (v : Option Addr) (c : Nat) (l : List Fd) (w : World), t = 129 - (n : Int) → n ≤ 129 → l.length ≤ 9223372036854775807 → ReadsF m w v l →
    Calls Try.prog 33 #[.agg #[.int .i64 k, .int .i64 i, .string s, .slice v l.length c], .int .i64 t] w (ValidPost (vErr n (.mk k i s l)) w)

set_option maxHeartbeats 4000000 in
set_option maxRecDepth 100000 in
theorem validAt_deep (k i : Int) (s : ByteArray) (v : Option Addr) (c : Nat) (n : Nat) (w : World) :
    Calls Try.prog 33 #[.agg #[.int .i64 k, .int .i64 i, .string s, .slice v n c], .int .i64 129] w (ValidPost 13 w) := by
  go_enter Try.func33, Try.ntmps33
  go_wp2_with fail
  go_ret
  exact ⟨rfl, by repeat (first | exact Below.refl _ _ | refine Below.setCell ?_ (by simp <;> omega) _ | refine Below.alloc ?_ (by simp <;> omega) _)⟩

set_option maxHeartbeats 4000000 in
set_option maxRecDepth 100000 in
theorem validAt_list (n : Nat) (ih : Hid (BelowOk n)) (s : ByteArray) (v : Option Addr) (c m : Nat) (l : List Fd) (hn : n < 129) (hlen : l.length ≤ 9223372036854775807) (hs : s.toList = []) (w : World) (hr : ReadsF m w v l) :
    Calls Try.prog 33 #[.agg #[.int .i64 2, .int .i64 0, .string s, .slice v l.length c], .int .i64 (128 - (n : Int))] w (ValidPost (firstOf (vErr n) l) w) := by
  have u0 : decide ((128 : Int) < 128 - (n : Int)) = false := by simp; omega
  have hs2 := str_empty hs
  have HR := Lib.hid hr
  clear hr
  go_enter Try.func33, Try.ntmps33
  go_wp2_with fail
  go_loopw [7, 8, 40] (fun _ _ s40 wr => ∃ j : Nat, j ≤ l.length ∧ firstOf (vErr n) l = firstOf (vErr n) (l.drop j) ∧ s40 = .int .i64 j ∧ Below w.heap.size w wr) (fun _ _ s40 _ => l.length - (RowKit.intOf s40).toNat)
  case atStart => exact ⟨0, by omega, rfl, rfl, by repeat (first | exact Below.refl _ _ | refine Below.setCell ?_ (by simp <;> omega) _ | refine Below.alloc ?_ (by simp <;> omega) _)⟩
  case round =>
    obtain ⟨j, hj, hf, rfl, hbel⟩ := hrel
    have HB := Lib.hid hbel
    have hz := hbel.size
    have HF := Lib.hid hf
    clear hbel hf hs
    by_cases hlt : j < l.length
    · cases m with
      | zero => exact absurd hlt (by have h : l = [] := HR.out; rw [h]; simp)
      | succ m =>
        obtain ⟨b, off, k, i, s', av, c', l', h0, rfl, h2, h3, h4, h5, h6, h7, h8, h9, h10, h11, h12⟩ := HR.out j hlt
        have HR' := Lib.hid (ReadsF.below HB.out m av l' h12)
        have g3 := (HB.out.cell (p := ⟨b, _, none⟩) h2).trans h3
        have g4 := (HB.out.cell (p := ⟨b, _, none⟩) h2).trans h4
        have g5 := (HB.out.cell (p := ⟨b, _, none⟩) h2).trans h5
        have g6 := (HB.out.cell (p := ⟨b, _, none⟩) h2).trans h6
        have H0 := Lib.hid h0
        clear h0 h2 h3 h4 h5 h6 h7 h8 h9 h10 h12
        have hstep := firstOf_drop (vErr n) l j _ H0.out
        rw [← HF.out] at hstep
        obtain ⟨r, hr⟩ : ∃ r, r = vErr n (.mk k i s' l') := ⟨_, rfl⟩
        rw [← hr] at hstep
        have IH := Lib.hid (fun w => ih.out (128 - (n : Int) + 1) m k i s' av c' l' w (by omega) (by omega) h11)
        rw [← hr] at IH
        have HSTEP := Lib.hid hstep
        clear hr hstep
        go_wp2_with fail
        go_fit (IH.out _ (ReadsF.below ((Below.refl wr.heap.size wr).alloc (Nat.le_refl _) _) m av l' HR'.out))
        rintro e w2 ⟨rfl, hb2⟩
        have HB2 := Lib.hid ((HB.out.alloc hz _).trans (hb2.mono (by simp; omega)))
        clear hb2
        by_cases hr0 : r = 0
        · have u1 : ((r : Int) != 0) = false := by rw [bne_eq_false_iff_eq]; omega
          have HN := Lib.hid (show firstOf (vErr n) l = firstOf (vErr n) (l.drop (j + 1)) by rw [HSTEP.out, if_neg (by omega)])
          clear hr0
          go_wp2_with fail
          exact ⟨⟨j + 1, by omega, HN.out, by go_num, HB2.out⟩, by simp [RowKit.intOf]; omega⟩
        · have u1 : ((r : Int) != 0) = true := by rw [bne_iff_ne]; omega
          have HN := Lib.hid (show firstOf (vErr n) l = r by rw [HSTEP.out, if_pos hr0])
          clear hr0
          go_wp2_with fail
          go_ret
          exact ⟨ret_int' (by rw [HN.out]), HB2.out⟩
    · obtain rfl : j = l.length := by omega
      have HE := Lib.hid (show firstOf (vErr n) l = 0 by rw [HF.out, List.drop_length]; rfl)
      go_wp2_with fail
      go_ret
      exact ⟨ret_int' (by rw [HE.out]; rfl), HB.out⟩

set_option maxHeartbeats 4000000 in
set_option maxRecDepth 100000 in
theorem validAt_plain (n : Nat) (k i : Int) (s : ByteArray) (v : Option Addr) (c : Nat) (l : List Fd) (hn : n < 129) (hok : (k = 0 ∧ s.toList = []) ∨ (k = 1 ∧ i = 0)) (hl : l.length = 0) (w : World) :
    Calls Try.prog 33 #[.agg #[.int .i64 k, .int .i64 i, .string s, .slice v l.length c], .int .i64 (128 - (n : Int))] w (ValidPost 0 w) := by
  have u0 : decide ((128 : Int) < 128 - (n : Int)) = false := by simp; omega
  rw [hl]
  rcases hok with ⟨rfl, hs⟩ | ⟨rfl, rfl⟩
  · have hs2 := str_empty hs
    clear hl
    go_enter Try.func33, Try.ntmps33
    go_wp2_with fail
    go_loop [7, 8, 40] (fun _ _ s40 => s40 = .int .i64 0) (fun _ _ s40 => 0)
    case atStart => rfl
    case round =>
      obtain rfl := hrel
      go_wp2_with fail
      go_ret
      exact ⟨rfl, by repeat (first | exact Below.refl _ _ | refine Below.setCell ?_ (by simp <;> omega) _ | refine Below.alloc ?_ (by simp <;> omega) _)⟩
  · clear hl
    go_enter Try.func33, Try.ntmps33
    go_wp2_with fail
    go_loop [7, 8, 40] (fun _ _ s40 => s40 = .int .i64 0) (fun _ _ s40 => 0)
    case atStart => rfl
    case round =>
      obtain rfl := hrel
      go_wp2_with fail
      go_ret
      exact ⟨rfl, by repeat (first | exact Below.refl _ _ | refine Below.setCell ?_ (by simp <;> omega) _ | refine Below.alloc ?_ (by simp <;> omega) _)⟩

theorem validAt_all : ∀ n : Nat, BelowOk n
  | 0 => by
    intro t m k i s v c l w ht _ _ _
    obtain rfl : t = 129 := by omega
    exact validAt_deep k i s v c l.length w
  | n + 1 => by
    intro t m k i s v c l w ht hn hlen hr
    obtain rfl : t = 128 - (n : Int) := by omega
    unfold vErr
    by_cases hb : badB k i s l = true
    · rw [if_pos hb]
      exact validAt_bad n k i s v c l (by omega) hb w
    · rw [if_neg hb]
      have hb' : badB k i s l = false := by simpa using hb
      unfold badB at hb'
      by_cases k0 : k = 0
      · rw [if_pos k0] at hb'
        have h1 : s.toList = [] ∧ l = [] := by simpa using hb'
        rw [show firstOf (vErr n) l = 0 by rw [h1.2]; rfl]
        exact validAt_plain n k i s v c l (by omega) (.inl ⟨k0, h1.1⟩) (by rw [h1.2]; rfl) w
      · rw [if_neg k0] at hb'
        by_cases k1 : k = 1
        · rw [if_pos k1] at hb'
          have h1 : i = 0 ∧ l = [] := by simpa using hb'
          rw [show firstOf (vErr n) l = 0 by rw [h1.2]; rfl]
          exact validAt_plain n k i s v c l (by omega) (.inr ⟨k1, h1.1⟩) (by rw [h1.2]; rfl) w
        · rw [if_neg k1] at hb'
          by_cases k2 : k = 2
          · rw [if_pos k2] at hb'
            have h1 : i = 0 ∧ s.toList = [] := by simpa using hb'
            obtain ⟨rfl, hs⟩ := h1
            subst k2
            exact validAt_list n (validAt_all n) s v c m l (by omega) hlen hs w hr
          · rw [if_neg k2] at hb'; cases hb'
end Go.Proofs.Ytfnjemocekgncaa
