/- The document's check of values, the elements; and its Valid. -/
import Derived.Test.YtabopneehhnhfabDoorValK
namespace Go.Proofs.YtabopneehhnhfabDoor
open Go.RowKit Go.Lib

theorem partE_zero {n : Nat} {k : Int} {t : Bool} {i : Int} {s : ByteArray} {l : List Vl} {ks : List (List UInt8)} (h : partE (n + 1) k t i s l ks = 0) :
    (¬ k < 0 ∧ ¬ 5 < k) ∧ plainB k t i s l ks = true ∧ (¬ i < -9007199254740992 ∧ ¬ 9007199254740992 < i) ∧ (¬ 4096 < s.size ∧ ¬ 1024 < l.length ∧ ¬ 1024 < ks.length) ∧ (k = 5 → keysB l ks = true) ∧ ¬ (4 ≤ k ∧ l = [] ∧ n = 0) := by
  unfold partE at h
  rw [if_neg (Nat.succ_ne_zero n)] at h
  by_cases h1 : (decide (k < 0) || decide (5 < k) || !plainB k t i s l ks) = true
  · rw [if_pos h1] at h; cases h
  rw [if_neg h1] at h
  by_cases h2 : (decide (i < -9007199254740992) || decide (9007199254740992 < i)) = true
  · rw [if_pos h2] at h; cases h
  rw [if_neg h2] at h
  by_cases h3 : (decide (4096 < s.size) || decide (1024 < l.length) || decide (1024 < ks.length)) = true
  · rw [if_pos h3] at h; cases h
  rw [if_neg h3] at h
  by_cases h4 : (k == 5 && !keysB l ks) = true
  · rw [if_pos h4] at h; cases h
  rw [if_neg h4] at h
  by_cases h5 : (decide (4 ≤ k) && l.isEmpty && decide (n + 1 = 1)) = true
  · rw [if_pos h5] at h; cases h
  simp at h1 h2 h3 h4 h5
  refine ⟨by omega, h1.2, by omega, by omega, h4, ?_⟩
  rintro ⟨g1, g2, g3⟩
  exact h5 g1 g2 g3

set_option maxHeartbeats 4000000 in
set_option maxRecDepth 100000 in
/-- Without elements. -/
theorem chk_none (n : Nat) (lev : Int) (hlev : lev = 16 - (n : Int)) (k : Int) (t : Bool) (i : Int) (s : ByteArray) (av kv : Option Addr) (ks : List (List UInt8)) (c kc : Nat)
    (h0 : partE (n + 1) k t i s [] ks = 0) (hl : ks.length ≤ 9223372036854775000) (hsz : ∀ x, x ∈ ks → x.length ≤ 140737488351232) (w : World) (hs : ReadsStr w kv ks) :
    Calls Tryd.prog 48 #[.agg #[.int .i64 k, .bool t, .int .i64 i, .string s, .slice av 0 c, .slice kv ks.length kc], .int .i64 lev] w fun e w' => e = .returned (.int .i64 0) ∧ Below w.heap.size w w' := by
  have X1 := Lib.hid (fun w => plainV_any k t i s av kv [] ks c kc w)
  have X2 := Lib.hid (fun w (h : ReadsStr w kv ks) => ascendingV_any k t i s av kv [] ks c kc hl hsz w h)
  obtain ⟨⟨h1, h2⟩, a3, ⟨h3, h4⟩, ⟨p5, p6, p7⟩, a8, a9⟩ := partE_zero h0
  rw [a3, List.length_nil] at X1
  rw [List.length_nil] at X2
  have HR := Lib.hid hs
  have u0 : ¬ (16 : Int) < lev := by omega
  have g5 : ¬ (4096 : Int) < (s.size : Int) := by omega
  have g7 : ¬ (1024 : Int) < (ks.length : Int) := by omega
  have hn0 : 4 ≤ k → ¬ lev = 16 := fun h e => a9 ⟨h, rfl, by omega⟩
  clear hs hl hsz p5 p6 p7 h0 a9 hlev
  by_cases hk : k = 5
  · rw [a8 hk] at X2
    have gl : (lev == 16) = false := by rw [beq_eq_false_iff_ne]; exact hn0 (by omega)
    clear a8 hn0 a3
    subst hk
    go_enter Tryd.func48, Tryd.ntmps48
    go_wp2_with fail
    go_fit (X1.out _)
    rintro e w1 ⟨rfl, hb1⟩
    have V1 := (V6_new w _ t i s (.slice av 0 c) (.slice kv ks.length kc)).below (by simp) hb1
    have B1 := Lib.hid (((Below.refl w.heap.size w).alloc (Nat.le_refl _) _).trans (hb1.mono (by simp)))
    have z1 := hb1.size
    simp only [World.size_alloc] at z1
    obtain ⟨-, c0, c1, c2, c3, c4, c5⟩ := V1
    clear hb1
    go_wp2_with fail
    go_fit (X2.out _ (HR.out.below B1.out))
    rintro e w2 ⟨rfl, hb2⟩
    have V2 := (show V6 w1 w.heap.size _ _ _ _ _ _ from ⟨by omega, c0, c1, c2, c3, c4, c5⟩).below (by omega) hb2
    have B2 := Lib.hid (B1.out.trans (hb2.mono B1.out.size))
    have z2 := hb2.size
    clear c0 c1 c2 c3 c4 c5
    obtain ⟨-, c0, c1, c2, c3, c4, c5⟩ := V2
    clear hb2
    go_wp2_with fail
    go_loopw [5] (fun s5 wr => s5 = .int .i64 0 ∧ wr = w2) (fun s5 _ => 0)
    case atStart => exact ⟨rfl, rfl⟩
    case round =>
      obtain ⟨rfl, rfl⟩ := hrel
      go_wp2_with fail
      go_ret
      exact ⟨rfl, B2.out⟩
  · have g8 : (k == 5) = false := by rw [beq_eq_false_iff_ne]; exact hk
    clear a8 a3
    by_cases h9 : 4 ≤ k
    · have gl : (lev == 16) = false := by rw [beq_eq_false_iff_ne]; exact hn0 h9
      clear hn0
      go_enter Tryd.func48, Tryd.ntmps48
      go_wp2_with fail
      go_fit (X1.out _)
      rintro e w1 ⟨rfl, hb1⟩
      have V1 := (V6_new w _ t i s (.slice av 0 c) (.slice kv ks.length kc)).below (by simp) hb1
      have B1 := Lib.hid (((Below.refl w.heap.size w).alloc (Nat.le_refl _) _).trans (hb1.mono (by simp)))
      have z1 := hb1.size
      simp only [World.size_alloc] at z1
      obtain ⟨-, c0, c1, c2, c3, c4, c5⟩ := V1
      clear hb1
      go_wp2_with fail
      go_loopw [5] (fun s5 wr => s5 = .int .i64 0 ∧ wr = w1) (fun s5 _ => 0)
      case atStart => exact ⟨rfl, rfl⟩
      case round =>
        obtain ⟨rfl, rfl⟩ := hrel
        go_wp2_with fail
        go_ret
        exact ⟨rfl, B1.out⟩
    · clear hn0
      go_enter Tryd.func48, Tryd.ntmps48
      go_wp2_with fail
      go_fit (X1.out _)
      rintro e w1 ⟨rfl, hb1⟩
      have V1 := (V6_new w _ t i s (.slice av 0 c) (.slice kv ks.length kc)).below (by simp) hb1
      have B1 := Lib.hid (((Below.refl w.heap.size w).alloc (Nat.le_refl _) _).trans (hb1.mono (by simp)))
      have z1 := hb1.size
      simp only [World.size_alloc] at z1
      obtain ⟨-, c0, c1, c2, c3, c4, c5⟩ := V1
      clear hb1
      go_wp2_with fail
      go_loopw [5] (fun s5 wr => s5 = .int .i64 0 ∧ wr = w1) (fun s5 _ => 0)
      case atStart => exact ⟨rfl, rfl⟩
      case round =>
        obtain ⟨rfl, rfl⟩ := hrel
        go_wp2_with fail
        go_ret
        exact ⟨rfl, B1.out⟩

set_option maxHeartbeats 4000000 in
set_option maxRecDepth 100000 in
/-- With elements, where the value itself has no error. -/
theorem chk_some (n : Nat) (hn16 : n ≤ 15) (ih : Hid (ChkV n)) (lev : Int) (hlev : lev = 16 - (n : Int)) (m : Nat) (k : Int) (t : Bool) (i : Int) (s : ByteArray) (av kv : Option Addr) (l : List Vl) (ks : List (List UInt8)) (c kc : Nat) (hne : l ≠ [])
    (h0 : partE (n + 1) k t i s l ks = 0) (hn : l.length ≤ 9223372036854775000) (hl : ks.length ≤ 9223372036854775000) (hsz : ∀ x, x ∈ ks → x.length ≤ 140737488351232) (w : World) (hs : ReadsStr w kv ks) (hr : ReadsV m w av l) :
    Calls Tryd.prog 48 #[.agg #[.int .i64 k, .bool t, .int .i64 i, .string s, .slice av l.length c, .slice kv ks.length kc], .int .i64 lev] w fun e w' => e = .returned (.int .i64 (firstV (errV n) l : Nat)) ∧ Below w.heap.size w w' := by
  have X1 := Lib.hid (fun w => plainV_any k t i s av kv l ks c kc w)
  have X2 := Lib.hid (fun w (h : ReadsStr w kv ks) => ascendingV_any k t i s av kv l ks c kc hl hsz w h)
  obtain ⟨⟨h1, h2⟩, a3, ⟨h3, h4⟩, ⟨p5, p6, p7⟩, a8, a9⟩ := partE_zero h0
  have hl0 : ¬ ((l.length : Int) = 0) := by
    have : l.length ≠ 0 := fun h => hne (List.eq_nil_of_length_eq_zero h)
    omega
  have hk45 : k = 4 ∨ k = 5 := by
    unfold plainB at a3
    cases l with
    | nil => exact absurd rfl hne
    | cons x r =>
      simp at a3
      omega
  rw [a3] at X1
  have HR := Lib.hid hs
  have HV := Lib.hid hr
  have u0 : ¬ (16 : Int) < lev := by omega
  have g5 : ¬ (4096 : Int) < (s.size : Int) := by omega
  have g6 : ¬ (1024 : Int) < (l.length : Int) := by omega
  have g7 : ¬ (1024 : Int) < (ks.length : Int) := by omega
  have glz : ((l.length : Int) == 0) = false := by rw [beq_eq_false_iff_ne]; exact hl0
  have HLEV := Lib.hid (show 1 ≤ lev ∧ lev + 1 = 17 - (n : Int) ∧ lev ≤ 16 by omega)
  clear hs hr hl hsz p5 p6 p7 h0 a9 hlev hne a3 hl0 hn
  rcases hk45 with rfl | rfl
  · clear a8
    go_enter Tryd.func48, Tryd.ntmps48
    go_wp2_with fail
    go_fit (X1.out _)
    rintro e w1 ⟨rfl, hb1⟩
    have V1 := (V6_new w _ t i s (.slice av l.length c) (.slice kv ks.length kc)).below (by simp) hb1
    have B1 := Lib.hid (((Below.refl w.heap.size w).alloc (Nat.le_refl _) _).trans (hb1.mono (by simp)))
    have z1 := hb1.size
    simp only [World.size_alloc] at z1
    obtain ⟨-, c0, c1, c2, c3, c4, c5⟩ := V1
    clear hb1
    go_wp2_with fail
    go_loopw [5] (fun s5 wr => ∃ j : Nat, j ≤ l.length ∧ s5 = .int .i64 (j : Int) ∧ Hid (firstV (errV n) l = firstV (errV n) (l.drop j)) ∧ Hid (Below w1.heap.size w1 wr)) (fun s5 _ => l.length - (RowKit.intOf s5).toNat)
    case atStart => exact ⟨0, by omega, rfl, Lib.hid rfl, Lib.hid (Below.refl _ _)⟩
    case round =>
      obtain ⟨j, hj, rfl, HE, HB⟩ := hrel
      have d4 := (HB.out.cell (p := ⟨w.heap.size, 4, none⟩) (show w.heap.size < w1.heap.size by omega)).trans c4
      by_cases hlt : j < l.length
      · cases m with
        | zero => exact absurd hlt (by have h : l = [] := HV.out; rw [h]; simp)
        | succ m =>
          obtain ⟨b, off, k', t', i', s', l', ks', av', c', kv', kc', e0, rfl, h2', q0, q1, q2, q3, q4, q5, r0, r1, r2, r3, r4, r5, r6, r7, r8, r9, hs', hl'⟩ := HV.out j hlt
          have BB := B1.out.trans (HB.out.mono B1.out.size)
          have p0 := (BB.cell (p := ⟨b, _, none⟩) h2').trans q0
          have p1 := (BB.cell (p := ⟨b, _, none⟩) h2').trans q1
          have p2 := (BB.cell (p := ⟨b, _, none⟩) h2').trans q2
          have p3 := (BB.cell (p := ⟨b, _, none⟩) h2').trans q3
          have p4 := (BB.cell (p := ⟨b, _, none⟩) h2').trans q4
          have p5 := (BB.cell (p := ⟨b, _, none⟩) h2').trans q5
          have C := Lib.hid (fun w' (hb : Below w.heap.size w w') => ih.out (lev + 1) m _ _ w' HLEV.out.2.1 (IsV.below ⟨k', t', i', s', l', ks', av', c', kv', kc', rfl, rfl, r0, r1, r2, r3, r4, r5, r6, r7, r8, r9, hs', hl'⟩ hb))
          have hst := firstV_drop (errV n) l j _ e0
          rw [← HE.out] at hst
          clear q0 q1 q2 q3 q4 q5 r0 r1 r2 r3 r4 r5 r6 r7 r8 r9 hs' hl' e0
          obtain ⟨z, hz⟩ : ∃ z, z = errV n (.mk k' t' i' s' l' ks') := ⟨_, rfl⟩
          rw [← hz] at C hst
          have BB := Lib.hid BB
          have hjI : (j : Int) < (l.length : Int) := by omega
          have hw : IntKind.i64.wrap (lev + 1) = lev + 1 := by rw [IntWalk.i64_in _ (by have := HLEV.out; omega)]
          go_wp2_with fail
          go_fit (C.out _ BB.out)
          rintro e w2 ⟨rfl, hb2⟩
          have B2 := Lib.hid (HB.out.trans (hb2.mono HB.out.size))
          clear hb2
          by_cases hz0 : z = 0
          · have HN := Lib.hid (show firstV (errV n) l = firstV (errV n) (l.drop (j + 1)) by rw [hst, if_neg (by rw [hz0]; simp)])
            have gz : ((z : Int) == 0) = true := by rw [beq_iff_eq]; omega
            clear hst hz0 hz
            go_wp2_with fail
            exact ⟨⟨j + 1, by omega, by go_num, HN, B2⟩, by simp [RowKit.intOf]; omega⟩
          · have HN := Lib.hid (show firstV (errV n) l = z by rw [hst, if_pos hz0])
            have gz : ((z : Int) == 0) = false := by rw [beq_eq_false_iff_ne]; omega
            clear hst hz0 hz
            go_wp2_with fail
            go_ret
            exact ⟨by rw [HN.out]; rfl, B1.out.trans (B2.out.mono B1.out.size)⟩
      · have hje : j = l.length := by omega
        have HN := Lib.hid (show firstV (errV n) l = 0 by rw [HE.out, hje, List.drop_length]; rfl)
        have hjI : ¬ (j : Int) < (l.length : Int) := by omega
        clear hje hlt
        go_wp2_with fail
        go_ret
        exact ⟨by rw [HN.out]; rfl, B1.out.trans (HB.out.mono B1.out.size)⟩
  · have X2 := Lib.hid (fun w h => (congrArg (fun q => Calls Tryd.prog 59 #[.agg #[.int .i64 5, .bool t, .int .i64 i, .string s, .slice av l.length c, .slice kv ks.length kc]] w fun e w' => e = .returned (.bool q) ∧ Below w.heap.size w w') (a8 rfl)).mp (X2.out w h))
    clear a8
    go_enter Tryd.func48, Tryd.ntmps48
    go_wp2_with fail
    go_fit (X1.out _)
    rintro e w1 ⟨rfl, hb1⟩
    have V1 := (V6_new w _ t i s (.slice av l.length c) (.slice kv ks.length kc)).below (by simp) hb1
    have B1 := Lib.hid (((Below.refl w.heap.size w).alloc (Nat.le_refl _) _).trans (hb1.mono (by simp)))
    have z1 := hb1.size
    simp only [World.size_alloc] at z1
    obtain ⟨-, c0, c1, c2, c3, c4, c5⟩ := V1
    clear hb1
    go_wp2_with fail
    go_fit (X2.out _ (HR.out.below B1.out))
    rintro e w2 ⟨rfl, hb2⟩
    have V2 := (show V6 w1 w.heap.size _ _ _ _ _ _ from ⟨by omega, c0, c1, c2, c3, c4, c5⟩).below (by omega) hb2
    have B2 := Lib.hid (B1.out.trans (hb2.mono B1.out.size))
    have z2 := hb2.size
    clear c0 c1 c2 c3 c4 c5
    obtain ⟨-, c0, c1, c2, c3, c4, c5⟩ := V2
    clear hb2
    go_wp2_with fail
    go_loopw [5] (fun s5 wr => ∃ j : Nat, j ≤ l.length ∧ s5 = .int .i64 (j : Int) ∧ Hid (firstV (errV n) l = firstV (errV n) (l.drop j)) ∧ Hid (Below w2.heap.size w2 wr)) (fun s5 _ => l.length - (RowKit.intOf s5).toNat)
    case atStart => exact ⟨0, by omega, rfl, Lib.hid rfl, Lib.hid (Below.refl _ _)⟩
    case round =>
      obtain ⟨j, hj, rfl, HE, HB⟩ := hrel
      have d4 := (HB.out.cell (p := ⟨w.heap.size, 4, none⟩) (show w.heap.size < w2.heap.size by omega)).trans c4
      by_cases hlt : j < l.length
      · cases m with
        | zero => exact absurd hlt (by have h : l = [] := HV.out; rw [h]; simp)
        | succ m =>
          obtain ⟨b, off, k', t', i', s', l', ks', av', c', kv', kc', e0, rfl, h2', q0, q1, q2, q3, q4, q5, r0, r1, r2, r3, r4, r5, r6, r7, r8, r9, hs', hl'⟩ := HV.out j hlt
          have BB := B2.out.trans (HB.out.mono B2.out.size)
          have p0 := (BB.cell (p := ⟨b, _, none⟩) h2').trans q0
          have p1 := (BB.cell (p := ⟨b, _, none⟩) h2').trans q1
          have p2 := (BB.cell (p := ⟨b, _, none⟩) h2').trans q2
          have p3 := (BB.cell (p := ⟨b, _, none⟩) h2').trans q3
          have p4 := (BB.cell (p := ⟨b, _, none⟩) h2').trans q4
          have p5 := (BB.cell (p := ⟨b, _, none⟩) h2').trans q5
          have C := Lib.hid (fun w' (hb : Below w.heap.size w w') => ih.out (lev + 1) m _ _ w' HLEV.out.2.1 (IsV.below ⟨k', t', i', s', l', ks', av', c', kv', kc', rfl, rfl, r0, r1, r2, r3, r4, r5, r6, r7, r8, r9, hs', hl'⟩ hb))
          have hst := firstV_drop (errV n) l j _ e0
          rw [← HE.out] at hst
          clear q0 q1 q2 q3 q4 q5 r0 r1 r2 r3 r4 r5 r6 r7 r8 r9 hs' hl' e0
          obtain ⟨z, hz⟩ : ∃ z, z = errV n (.mk k' t' i' s' l' ks') := ⟨_, rfl⟩
          rw [← hz] at C hst
          have BB := Lib.hid BB
          have hjI : (j : Int) < (l.length : Int) := by omega
          have hw : IntKind.i64.wrap (lev + 1) = lev + 1 := by rw [IntWalk.i64_in _ (by have := HLEV.out; omega)]
          go_wp2_with fail
          go_fit (C.out _ BB.out)
          rintro e w3 ⟨rfl, hb3⟩
          have B3 := Lib.hid (HB.out.trans (hb3.mono HB.out.size))
          clear hb3
          by_cases hz0 : z = 0
          · have HN := Lib.hid (show firstV (errV n) l = firstV (errV n) (l.drop (j + 1)) by rw [hst, if_neg (by rw [hz0]; simp)])
            have gz : ((z : Int) == 0) = true := by rw [beq_iff_eq]; omega
            clear hst hz0 hz
            go_wp2_with fail
            exact ⟨⟨j + 1, by omega, by go_num, HN, B3⟩, by simp [RowKit.intOf]; omega⟩
          · have HN := Lib.hid (show firstV (errV n) l = z by rw [hst, if_pos hz0])
            have gz : ((z : Int) == 0) = false := by rw [beq_eq_false_iff_ne]; omega
            clear hst hz0 hz
            go_wp2_with fail
            go_ret
            exact ⟨by rw [HN.out]; rfl, B2.out.trans (B3.out.mono B2.out.size)⟩
      · have hje : j = l.length := by omega
        have HN := Lib.hid (show firstV (errV n) l = 0 by rw [HE.out, hje, List.drop_length]; rfl)
        have hjI : ¬ (j : Int) < (l.length : Int) := by omega
        clear hje hlt
        go_wp2_with fail
        go_ret
        exact ⟨by rw [HN.out]; rfl, B2.out.trans (HB.out.mono B2.out.size)⟩
end Go.Proofs.YtabopneehhnhfabDoor
