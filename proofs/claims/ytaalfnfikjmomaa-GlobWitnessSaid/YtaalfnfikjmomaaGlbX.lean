/- Contract of the program's class (glob). -/
import Derived.Test.YtaalfnfikjmomaaGlbW
import Derived.LoopTactic
namespace Go.Proofs.Ytaalfnfikjmomaa
open Go.RowKit Go.Lib
theorem itemL_le {l r : List UInt8} {x : UInt8 × UInt8} (h : itemL l = some (x, r)) : x.1.toNat ≤ x.2.toNat := by
  unfold itemL at h
  split at h
  · cases h
  · split at h
    · split at h
      · cases h
      · split at h
        · cases h
        · simp at h; obtain ⟨rfl, _⟩ := h; simp; omega
    · simp at h; obtain ⟨rfl, _⟩ := h; simp
set_option maxHeartbeats 8000000 in
theorem class_any (s : ByteArray) (hs : s.size ≤ 1099511627776) (h0 : 0 < s.size) (w : World) :
    Calls Try.prog 48 #[.string s] w (PClassPost s w.heap.size w) := by
  have hz : (1 : Int) ≤ (s.size : Int) ∧ (s.size : Int) ≤ 1099511627776 := by omega
  have ST := Lib.hid (cinv_start s h0)
  obtain ⟨t, ht⟩ : ∃ t, t = s.extract 1 s.size := ⟨_, rfl⟩
  rw [← ht] at ST
  have hsl := ht.symm
  have HS := Lib.hid hs
  obtain ⟨w2, hw2⟩ : ∃ w2, w2 = (w.alloc (.cells #[.int .u64 0, .int .u64 0, .int .u64 0, .int .u64 0, .bool false, .bool false, .int .u8 0] 50)).alloc (.cells #[.int .u64 0, .int .u64 0, .int .u64 0, .int .u64 0] 48) := ⟨_, rfl⟩
  have W2 := Lib.hid (show BlkAt w2 w.heap.size 50 #[.int .u64 0, .int .u64 0, .int .u64 0, .int .u64 0, .bool false, .bool false, .int .u8 0] ∧ BlkAt w2 (w.heap.size + 1) 48 (setC (itemSet [])).toArray ∧ Below w.heap.size w w2 from by
    have a1 := BlkAt.new w 50 #[.int .u64 0, .int .u64 0, .int .u64 0, .int .u64 0, .bool false, .bool false, .int .u8 0]
    have a2 := BlkAt.new (w.alloc (.cells #[.int .u64 0, .int .u64 0, .int .u64 0, .int .u64 0, .bool false, .bool false, .int .u8 0] 50)) 48 #[.int .u64 0, .int .u64 0, .int .u64 0, .int .u64 0]
    have b1 := a1.below ((Below.refl _ _).alloc (Nat.le_refl _) (.cells #[.int .u64 0, .int .u64 0, .int .u64 0, .int .u64 0] 48))
    rw [← hw2] at a2 b1
    simp only [World.size_alloc] at a2
    have e := empty_arr []
    simp only [List.append_nil] at e
    exact ⟨b1, by rw [itemSet_nil, e]; exact a2, by rw [hw2]; exact ((Below.refl w.heap.size w).alloc (Nat.le_refl _) _).alloc (by simp) _⟩)
  clear ht hs h0
  go_enter Try.func48, Try.ntmps48
  go_wp2_with fail
  rw [← hw2]
  clear hw2 hsl
  go_loopw [6] (fun s6 wr => ∃ (u : ByteArray) (done : List (UInt8 × UInt8)) (k : Nat), s6 = .string u ∧ CInv s u done k ∧ BlkAt wr w.heap.size 50 #[.int .u64 0, .int .u64 0, .int .u64 0, .int .u64 0, .bool false, .bool false, .int .u8 0] ∧ BlkAt wr (w.heap.size + 1) 48 (setC (itemSet done)).toArray ∧ Below w.heap.size w wr) (fun s6 _ => match s6 with | .string u => u.size | _ => 0)
  case atStart => exact ⟨t, [], 1, rfl, ST.out, W2.out⟩
  case round =>
    obtain ⟨u, done, k, rfl, hc, hr, ha, hb⟩ := hrel
    have CI := Lib.hid hc
    have WR := Lib.hid (And.intro hr (And.intro ha hb))
    by_cases hu : 0 < u.size
    · have hix := index_0 u hu
      have hd := drop_cons u 0 hu
      rw [List.drop_zero] at hd
      obtain ⟨z1, z2⟩ := ne_list u hu
      have u1 : (0 : Int) < (u.size : Int) := by omega
      have HSZ := Lib.hid hc.size
      have sz : (s.size : Int) = k + u.size := by have := hc.size; omega
      have k1 : (1 : Int) ≤ k := by have := hc.pos; omega
      obtain ⟨c, hc9⟩ : ∃ c, c = u[0] := ⟨_, rfl⟩
      rw [← hc9] at hd hix
      have e1 : c.toNat = 93 ↔ c = 93 := u8_lit (by omega)
      have d9 := c.toNat_lt
      obtain ⟨n, hn⟩ : ∃ n, n = c.toNat := ⟨_, rfl⟩
      rw [← hn] at hix e1 d9
      have n0 : (0 : Int) ≤ n ∧ (n : Int) < 256 := by omega
      by_cases hm : n = 93
      · have CS := Lib.hid (cinv_stop hc (by rw [hd, List.head?_cons, e1.1 hm]))
        subst hm
        by_cases hk1 : k = 1
        · subst hk1
          have HD := Lib.hid (hc.first.2 rfl)
          have c0 := hr.cell (k := 0) rfl
          have f0 := hr.frozen 0
          have c1 := hr.cell (k := 1) rfl
          have f1 := hr.frozen 1
          have c2 := hr.cell (k := 2) rfl
          have f2 := hr.frozen 2
          have c3 := hr.cell (k := 3) rfl
          have f3 := hr.frozen 3
          have c4 := hr.cell (k := 4) rfl
          have f4 := hr.frozen 4
          have c5 := hr.cell (k := 5) rfl
          have f5 := hr.frozen 5
          have c6 := hr.cell (k := 6) rfl
          have f6 := hr.frozen 6
          clear hc ha hb hu hr hd hc9 e1 d9 hn
          go_wp2_with fail
          refine bodyPost_ret (v := .tuple #[.agg #[.int .u64 0, .int .u64 0, .int .u64 0, .int .u64 0, .bool false, .bool false, .int .u8 0], .int .i64 0, .bool false]) (by simp [results, Try.results48, go_sem, c0, c1, c2, c3, c4, c5, c6]) rfl ⟨(((((((WR.out.2.2.setCell (p := ⟨w.heap.size, 0, none⟩) (Nat.le_refl _) _).setCell (p := ⟨w.heap.size, 1, none⟩) (Nat.le_refl _) _).setCell (p := ⟨w.heap.size, 2, none⟩) (Nat.le_refl _) _).setCell (p := ⟨w.heap.size, 3, none⟩) (Nat.le_refl _) _).setCell (p := ⟨w.heap.size, 4, none⟩) (Nat.le_refl _) _).setCell (p := ⟨w.heap.size, 5, none⟩) (Nat.le_refl _) _).setCell (p := ⟨w.heap.size, 6, none⟩) (Nat.le_refl _) _), by rw [CS.out]; simp only [HD.out, if_true]⟩
        · have HD := Lib.hid (fun e => hk1 (hc.first.1 e))
          have k2 : ¬ (k : Int) = 1 := by omega
          have RM := Lib.hid (remove_set (itemSet done) (w.heap.size + 1) (w.heap.size + 1) 47 48 [] (Nat.le_refl _) (by decide) wr (by rw [List.append_nil]; exact ha))
          clear hc ha hb hu hr hd hc9 e1 d9 hn hk1
          go_wp2_with fail
          go_fit RM.out
          rintro e w4 ⟨rfl, h4, hb4⟩
          rw [List.append_nil] at h4
          have R4 := Lib.hid (WR.out.1.of_block (hb4.block _ (by omega)))
          have B4 := Lib.hid (WR.out.2.2.trans (hb4.mono (by omega)))
          obtain ⟨k0, k3, k4, k5, hk⟩ := setC_words (upd (itemSet done) 47 false)
          have HK := Lib.hid hk
          rw [hk] at h4
          have s0 := h4.cell (k := 0) (v := .int .u64 (k0 : Nat)) rfl
          have s1 := h4.cell (k := 1) (v := .int .u64 (k3 : Nat)) rfl
          have s2 := h4.cell (k := 2) (v := .int .u64 (k4 : Nat)) rfl
          have s3 := h4.cell (k := 3) (v := .int .u64 (k5 : Nat)) rfl
          have c0 := R4.out.cell (k := 0) rfl
          have f0 := R4.out.frozen 0
          have c1 := R4.out.cell (k := 1) rfl
          have f1 := R4.out.frozen 1
          have c2 := R4.out.cell (k := 2) rfl
          have f2 := R4.out.frozen 2
          have c3 := R4.out.cell (k := 3) rfl
          have f3 := R4.out.frozen 3
          have c4 := R4.out.cell (k := 4) rfl
          have f4 := R4.out.frozen 4
          have c5 := R4.out.cell (k := 5) rfl
          have f5 := R4.out.frozen 5
          have c6 := R4.out.cell (k := 6) rfl
          have f6 := R4.out.frozen 6
          clear h4 hb4 hk
          go_wp2_with fail
          refine bodyPost_ret (v := .tuple #[.agg #[.int .u64 (k0 : Nat), .int .u64 (k3 : Nat), .int .u64 (k4 : Nat), .int .u64 (k5 : Nat), .bool false, .bool false, .int .u8 0], .int .i64 ((k + 1 : Nat) : Int), .bool true]) (by simp [results, Try.results48, go_sem, c0, c1, c2, c3, c4, c5, c6]) rfl ⟨(((((((B4.out.setCell (p := ⟨w.heap.size, 0, none⟩) (Nat.le_refl _) _).setCell (p := ⟨w.heap.size, 1, none⟩) (Nat.le_refl _) _).setCell (p := ⟨w.heap.size, 2, none⟩) (Nat.le_refl _) _).setCell (p := ⟨w.heap.size, 3, none⟩) (Nat.le_refl _) _).setCell (p := ⟨w.heap.size, 4, none⟩) (Nat.le_refl _) _).setCell (p := ⟨w.heap.size, 5, none⟩) (Nat.le_refl _) _).setCell (p := ⟨w.heap.size, 6, none⟩) (Nat.le_refl _) _), ?_⟩
          rw [CS.out]
          show if done = [] then _ else _
          rw [if_neg HD.out]
          refine ⟨k + 1, by have := HSZ.out; have := u1; rw [List.length_drop, lenB]; omega, rfl, by omega, ?_⟩
          unfold elC
          rw [acc_class, HK.out]
          rfl
      · have hh : u.data.toList.head? ≠ some 93 := by rw [hd, List.head?_cons]; intro e; exact hm (e1.2 (Option.some.inj e))
        have m1 : ((n : Int) != 93) = true := by simp; omega
        have hus : u.size ≤ 1099511627776 := by have := HSZ.out; have := HS.out; omega
        have I := Lib.hid (fun w => item_any u hus w)
        cases hi : itemL u.data.toList with
        | none =>
          have CB := Lib.hid (cinv_bad hc hh hi)
          have I2 := Lib.hid (fun (w : World) (e : Ending) (w' : World) (h : ItemPost u w e w') => show w = w' ∧ ∃ a b n : Nat, e = Ending.returned (.tuple #[.int .u8 a, .int .u8 b, .int .i64 n, .bool false]) from by obtain ⟨h1, h3⟩ := (h : ItemPost u w e w'); rw [hi] at h3; exact ⟨h1, h3⟩)
          have c0 := hr.cell (k := 0) rfl
          have f0 := hr.frozen 0
          have c1 := hr.cell (k := 1) rfl
          have f1 := hr.frozen 1
          have c2 := hr.cell (k := 2) rfl
          have f2 := hr.frozen 2
          have c3 := hr.cell (k := 3) rfl
          have f3 := hr.frozen 3
          have c4 := hr.cell (k := 4) rfl
          have f4 := hr.frozen 4
          have c5 := hr.cell (k := 5) rfl
          have f5 := hr.frozen 5
          have c6 := hr.cell (k := 6) rfl
          have f6 := hr.frozen 6
          clear hc ha hb hu hr hd hc9 e1 d9 hn hm hh hus hi
          go_wp2_with fail
          go_fit (I.out _)
          intro e w4 h
          obtain ⟨rfl, a, b, m, rfl⟩ := I2.out _ _ _ h
          clear h
          go_wp2_with fail
          refine bodyPost_ret (v := .tuple #[.agg #[.int .u64 0, .int .u64 0, .int .u64 0, .int .u64 0, .bool false, .bool false, .int .u8 0], .int .i64 0, .bool false]) (by simp [results, Try.results48, go_sem, c0, c1, c2, c3, c4, c5, c6]) rfl ⟨(((((((WR.out.2.2.setCell (p := ⟨w.heap.size, 0, none⟩) (Nat.le_refl _) _).setCell (p := ⟨w.heap.size, 1, none⟩) (Nat.le_refl _) _).setCell (p := ⟨w.heap.size, 2, none⟩) (Nat.le_refl _) _).setCell (p := ⟨w.heap.size, 3, none⟩) (Nat.le_refl _) _).setCell (p := ⟨w.heap.size, 4, none⟩) (Nat.le_refl _) _).setCell (p := ⟨w.heap.size, 5, none⟩) (Nat.le_refl _) _).setCell (p := ⟨w.heap.size, 6, none⟩) (Nat.le_refl _) _), by rw [CB.out]⟩
        | some q =>
          obtain ⟨⟨lo, hi9⟩, r⟩ := q
          have I2 := Lib.hid (fun (w : World) (e : Ending) (w' : World) (h : ItemPost u w e w') => show w = w' ∧ ∃ n : Nat, n + r.length = u.size ∧ r = u.data.toList.drop n ∧ 0 < n ∧ n ≤ 5 ∧ e = Ending.returned (.tuple #[.int .u8 lo.toNat, .int .u8 hi9.toNat, .int .i64 n, .bool true]) from by obtain ⟨h1, h3⟩ := (h : ItemPost u w e w'); rw [hi] at h3; exact ⟨h1, h3⟩)
          have NI := Lib.hid (fun n hr hn hl => cinv_step (n := n) hc hh hi hr hn hl)
          have RE := Lib.hid (rng_end done lo hi9)
          have le := itemL_le hi
          have lo9 := lo.toNat_lt
          have hi8 := hi9.toNat_lt
          obtain ⟨a, ha9⟩ : ∃ a, a = lo.toNat := ⟨_, rfl⟩
          obtain ⟨b, hb9⟩ : ∃ b, b = hi9.toNat := ⟨_, rfl⟩
          simp only at le
          rw [← ha9, ← hb9] at I2 RE
          rw [← ha9] at le lo9
          rw [← hb9] at le hi8
          have a0 : (0 : Int) ≤ a ∧ (a : Int) < 256 := by omega
          have b0 : (0 : Int) ≤ b ∧ (b : Int) < 256 := by omega
          have LE := Lib.hid (And.intro le (And.intro lo9 hi8))
          have s0 : (0 : Int) ≤ (s.size : Int) := by omega
          clear hc ha hb hu hr hd hc9 e1 d9 hn hm hh hus hi le lo9 hi8 ha9 hb9
          go_wp2_with fail
          go_fit (I.out _)
          intro e w4 h
          obtain ⟨rfl, m, hm1, hm2, hm3, hm4, rfl⟩ := I2.out _ _ _ h
          have m0 : (0 : Int) < m ∧ (m : Int) ≤ u.size := by omega
          have NX := Lib.hid (NI.out m hm2 hm3 hm1)
          have M3 := Lib.hid hm3
          clear h hm1 hm2 hm3 hm4
          go_wp2_with fail
          go_loopw [11] (fun s11 wx => ∃ j : Nat, s11 = .int .i64 (j : Int) ∧ a ≤ j ∧ j ≤ b + 1 ∧ BlkAt wx w.heap.size 50 #[.int .u64 0, .int .u64 0, .int .u64 0, .int .u64 0, .bool false, .bool false, .int .u8 0] ∧ BlkAt wx (w.heap.size + 1) 48 (setC (rng (itemSet done) a j)).toArray ∧ Below w.heap.size w wx) (fun s11 _ => 256 - (RowKit.intOf s11).toNat)
          case atStart => exact ⟨a, rfl, Nat.le_refl _, by have := LE.out; omega, WR.out.1, by rw [rng_start]; exact WR.out.2.1, WR.out.2.2⟩
          case round =>
            obtain ⟨j, rfl, hj1, hj2, hr, ha, hb⟩ := hrel
            have WX := Lib.hid (And.intro hr (And.intro ha hb))
            have JJ := Lib.hid (And.intro hj1 hj2)
            have j0 : (0 : Int) ≤ j ∧ (j : Int) ≤ 256 := by have := LE.out; omega
            by_cases hjb : j ≤ b
            · have j1 : (j : Int) ≤ b := by omega
              have RM := Lib.hid (fun hc => add_set (rng (itemSet done) a j) (w.heap.size + 1) (w.heap.size + 1) j 48 [] (Nat.le_refl _) hc wr (by rw [List.append_nil]; exact ha))
              have RM2 := Lib.hid (RM.out (by have := LE.out; omega))
              have J9 := Lib.hid hjb
              clear hj1 hj2 hr ha hb hjb RM
              go_wp2_with fail
              go_fit RM2.out
              rintro e w5 ⟨rfl, h5, hb5⟩
              rw [List.append_nil, rng_step _ _ _ JJ.out.1] at h5
              have R5 := Lib.hid (And.intro (WX.out.1.of_block (hb5.block _ (by omega))) (And.intro h5 (WX.out.2.2.trans (hb5.mono (by omega)))))
              clear h5 hb5
              go_wp2_with fail
              go_roundw
              case rel => exact ⟨j + 1, by go_num, by have := JJ.out; omega, by have := J9.out; omega, R5.out⟩
              case measure => have := J9.out; have := LE.out; simp [RowKit.intOf]; omega
            · obtain rfl : j = b + 1 := by omega
              rw [RE.out] at ha
              have FX := Lib.hid (And.intro hr (And.intro ha hb))
              have j1 : ¬ ((b + 1 : Nat) : Int) ≤ b := by omega
              clear hj1 hj2 hr ha hb hjb
              go_wp2_with fail
              go_roundw
              case rel => exact ⟨u.extract m u.size, done ++ [(lo, hi9)], k + m, rfl, NX.out, FX.out⟩
              case measure =>
                have := M3.out
                show (u.extract m u.size).size < u.size
                rw [ext_size]
                omega
    · have HC := Lib.hid (cinv_end hc (by omega))
      obtain rfl : u = ⟨#[]⟩ := by
        apply ByteArray.ext
        apply Array.toList_inj.1
        exact List.eq_nil_of_length_eq_zero (by rw [lenB]; omega)
      have c0 := hr.cell (k := 0) rfl
      have f0 := hr.frozen 0
      have c1 := hr.cell (k := 1) rfl
      have f1 := hr.frozen 1
      have c2 := hr.cell (k := 2) rfl
      have f2 := hr.frozen 2
      have c3 := hr.cell (k := 3) rfl
      have f3 := hr.frozen 3
      have c4 := hr.cell (k := 4) rfl
      have f4 := hr.frozen 4
      have c5 := hr.cell (k := 5) rfl
      have f5 := hr.frozen 5
      have c6 := hr.cell (k := 6) rfl
      have f6 := hr.frozen 6
      clear hc ha hb hu hr
      go_wp2_with fail
      refine bodyPost_ret (v := .tuple #[.agg #[.int .u64 0, .int .u64 0, .int .u64 0, .int .u64 0, .bool false, .bool false, .int .u8 0], .int .i64 0, .bool false]) (by simp [results, Try.results48, go_sem, c0, c1, c2, c3, c4, c5, c6]) rfl ⟨(((((((WR.out.2.2.setCell (p := ⟨w.heap.size, 0, none⟩) (Nat.le_refl _) _).setCell (p := ⟨w.heap.size, 1, none⟩) (Nat.le_refl _) _).setCell (p := ⟨w.heap.size, 2, none⟩) (Nat.le_refl _) _).setCell (p := ⟨w.heap.size, 3, none⟩) (Nat.le_refl _) _).setCell (p := ⟨w.heap.size, 4, none⟩) (Nat.le_refl _) _).setCell (p := ⟨w.heap.size, 5, none⟩) (Nat.le_refl _) _).setCell (p := ⟨w.heap.size, 6, none⟩) (Nat.le_refl _) _), by rw [HC.out]⟩
end Go.Proofs.Ytaalfnfikjmomaa
