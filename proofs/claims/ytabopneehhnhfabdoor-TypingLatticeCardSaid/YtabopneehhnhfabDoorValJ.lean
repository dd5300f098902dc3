/- Contracts of the document's key and ascending, of values. -/
import Derived.Test.YtabopneehhnhfabDoorValC
import Derived.Deep.QuietTactic
import Derived.BigQuiet
namespace Go.Proofs.YtabopneehhnhfabDoor
open Go.RowKit Go.Lib

theorem keyV_any (s : ByteArray) (w : World) :
    Calls Tryd.prog 64 #[.string s] w fun e w' => e = .returned (.bool (keyB s.data.toList)) ∧ w' = w := by
  have hk := Lib.hid (keyB_str s)
  by_cases h1 : 1 ≤ s.size <;> by_cases h2 : s.size ≤ 64
  all_goals
    have g1 : decide ((1 : Int) ≤ (s.size : Int)) = decide (1 ≤ s.size) := by simp <;> omega
    have g2 : decide ((s.size : Int) ≤ 64) = decide (s.size ≤ 64) := by simp <;> omega
    have E := Lib.hid (hk.out)
    simp only [h1, h2, decide_true, decide_false, Bool.and_true, Bool.and_false] at g1 g2 E
    clear h1 h2 hk
    go_enter Tryd.func64, Tryd.ntmps64
    go_wp2_with fail
    go_ret
    exact ⟨by rw [E.out]; first | rfl | (rw [g1]; rfl) | (rw [g2]; rfl), rfl⟩

/-- Are the keys from j on keys, and ascending from the one before? -/
def DK (ks : List (List UInt8)) (j : Nat) : Bool := (ks.drop j).all keyB && ascB (ks.drop (j - 1))
theorem DK_zero (ks : List (List UInt8)) : DK ks 0 = (ks.all keyB && ascB ks) := by
  unfold DK
  rw [List.drop_zero]
theorem DK_one {ks : List (List UInt8)} (hi : 0 < ks.length) : DK ks 0 = (keyB ks[0] && DK ks 1) := by
  have h : ks.all keyB = (keyB ks[0] && (ks.drop 1).all keyB) := by
    conv => lhs; rw [show ks = ks[0] :: ks.drop 1 from List.drop_eq_getElem_cons hi]
    rw [List.all_cons]
  rw [DK_zero, h]
  show _ = (keyB ks[0] && ((ks.drop 1).all keyB && ascB (ks.drop 0)))
  rw [List.drop_zero, Bool.and_assoc]
theorem DK_step {ks : List (List UInt8)} {j : Nat} (hi : j + 1 < ks.length) : DK ks (j + 1) = (keyB ks[j + 1] && (decide (cmpL (ks[j]'(by omega)) ks[j + 1] < 0) && DK ks (j + 2))) := by
  have h1 := ascB_step (L := ks) (j := j) hi
  show ((ks.drop (j + 1)).all keyB && ascB (ks.drop j)) = (keyB ks[j + 1] && (decide (cmpL (ks[j]'(by omega)) ks[j + 1] < 0) && ((ks.drop (j + 1 + 1)).all keyB && ascB (ks.drop (j + 1)))))
  have h2 : (ks.drop (j + 1)).all keyB = (keyB ks[j + 1] && (ks.drop (j + 1 + 1)).all keyB) := by rw [List.drop_eq_getElem_cons hi, List.all_cons]
  rw [h1, h2]
  generalize decide (cmpL (ks[j]'(by omega)) ks[j + 1] < 0) = p
  cases keyB ks[j + 1] <;> cases p <;> simp
theorem DK_end (ks : List (List UInt8)) : DK ks ks.length = true := by
  unfold DK
  rw [ascB_end (by omega)]
  simp

set_option maxHeartbeats 4000000 in
set_option maxRecDepth 100000 in
theorem ascendingV_any (k : Int) (t : Bool) (i : Int) (s : ByteArray) (av kv : Option Addr) (l : List Vl) (ks : List (List UInt8)) (c kc : Nat) (hl : ks.length ≤ 9223372036854775000) (hsz : ∀ x, x ∈ ks → x.length ≤ 140737488351232) (w : World) (hr : ReadsStr w kv ks) :
    Calls Tryd.prog 59 #[.agg #[.int .i64 k, .bool t, .int .i64 i, .string s, .slice av l.length c, .slice kv ks.length kc]] w fun e w' => e = .returned (.bool (keysB l ks)) ∧ Below w.heap.size w w' := by
  have HSZ := Lib.hid hsz
  obtain ⟨W1, hW1⟩ : ∃ W1, w.alloc (.cells #[.int .i64 k, .bool t, .int .i64 i, .string s, .slice av l.length c, .slice kv ks.length kc] 33) = W1 := ⟨_, rfl⟩
  have hb0 : Below w.heap.size w W1 := by rw [← hW1]; exact (Below.refl _ _).alloc (Nat.le_refl _) _
  have hc4 : W1.cell? ⟨w.heap.size, 4, none⟩ = some (.slice av l.length c) := by rw [← hW1]; simp
  have hc5 : W1.cell? ⟨w.heap.size, 5, none⟩ = some (.slice kv ks.length kc) := by rw [← hW1]; simp
  have hz1 : w.heap.size < W1.heap.size := by rw [← hW1]; simp
  have HB0 := Lib.hid hb0
  have HR := Lib.hid (hr.below hb0)
  have HK := Lib.hid (show keysB l ks = (decide (ks.length = l.length) && DK ks 0) by unfold keysB; rw [DK_zero, Bool.and_assoc])
  clear hr hsz
  go_enter Tryd.func59, Tryd.ntmps59
  go_wp2_with fail
  go_loopw [3] (fun s3 wr => ∃ j : Nat, j ≤ ks.length ∧ s3 = .int .i64 (j : Int) ∧ Hid (DK ks 0 = DK ks j) ∧ Hid (Below W1.heap.size W1 wr)) (fun s3 _ => ks.length + 1 - (RowKit.intOf s3).toNat)
  case atStart => exact ⟨0, by omega, rfl, Lib.hid rfl, Lib.hid (Below.refl _ _)⟩
  case round =>
    obtain ⟨j, hj, rfl, HE, HB⟩ := hrel
    have d5 := (HB.out.cell (p := ⟨w.heap.size, 5, none⟩) hz1).trans hc5
    have d4 := (HB.out.cell (p := ⟨w.heap.size, 4, none⟩) hz1).trans hc4
    by_cases hlt : j < ks.length
    · obtain ⟨b, off, rfl, g2, g3⟩ := HR.out j hlt
      have e3 := (HB.out.cell (p := ⟨b, _, none⟩) g2).trans g3
      have F := keyV_any ⟨ks[j].toArray⟩
      rw [show (⟨ks[j].toArray⟩ : ByteArray).data.toList = ks[j] by simp] at F
      have hx9 := HSZ.out _ (List.getElem_mem hlt)
      have hjI : (0 : Int) ≤ (j : Int) ∧ (j : Int) < (ks.length : Int) := by omega
      have a0 : (0 : Int) ≤ (j : Int) := by omega
      have a1 : (j : Int) < (ks.length : Int) := by omega
      rcases (show j = 0 ∨ ∃ i, j = i + 1 by cases j; exact .inl rfl; exact .inr ⟨_, rfl⟩) with h0 | ⟨i', h0⟩
      · subst h0
        rw [Nat.add_zero] at e3
        have hst := DK_one hlt
        rw [← HE.out] at hst
        obtain ⟨q, hq⟩ : ∃ q, q = keyB ks[0] := ⟨_, rfl⟩
        rw [← hq] at F hst
        obtain ⟨sx, hsx⟩ : ∃ s : ByteArray, s = ⟨(ks[0]).toArray⟩ := ⟨_, rfl⟩
        rw [← hsx] at e3 F
        have F := Lib.hid F
        clear hq hsx g3 hx9 hc4 hc5 hjI a0 a1
        have a1 : (0 : Int) < (ks.length : Int) := by omega
        cases q
        · have HN := Lib.hid (show keysB l ks = false by rw [HK.out, hst, Bool.false_and, Bool.and_false])
          clear hst
          go_upto_region 4 with fail
          go_quiet (first | (go_at_call 64; exact Calls.quiet_of_same (F.out _)))
          have HS := Lib.hid (below_drewN HB.out nq)
          go_wp2_with fail
          go_ret
          exact ⟨by rw [HN.out]; rfl, HB0.out.trans (HS.out.mono HB0.out.size)⟩
        · have HN := Lib.hid (show DK ks 0 = DK ks 1 by rw [hst, Bool.true_and])
          clear hst
          go_upto_region 4 with fail
          go_quiet (first | (go_at_call 64; exact Calls.quiet_of_same (F.out _)))
          have HS := Lib.hid (below_drewN HB.out nq)
          go_wp2_with fail
          exact ⟨⟨1, by omega, rfl, HN, HS⟩, by (simp [RowKit.intOf]; try omega)⟩
      · subst h0
        have hst := DK_step hlt
        rw [← HE.out] at hst
        have hi' : i' < ks.length := Nat.lt_of_succ_lt hlt
        obtain ⟨b', off', e', f2, f3o⟩ := HR.out i' hi'
        injection e' with e'
        injection e' with e1 e2 _
        subst e1 e2
        have f3 := (HB.out.cell (p := ⟨b, _, none⟩) f2).trans f3o
        clear f3o
        have hy9 := HSZ.out _ (List.getElem_mem hi')
        obtain ⟨x, hx⟩ : ∃ x, x = ks[i' + 1] := ⟨_, rfl⟩
        obtain ⟨y, hy⟩ : ∃ y, y = ks[i']'hi' := ⟨_, rfl⟩
        rw [← hx] at e3 hst hx9 F
        rw [← hy] at f3 hst hy9
        have C := fun w => refCompare_any ⟨y.toArray⟩ ⟨x.toArray⟩ (by rw [mkS_size]; exact hy9) (by rw [mkS_size]; exact hx9) w
        rw [show (⟨x.toArray⟩ : ByteArray).data.toList = x from rfl, show (⟨y.toArray⟩ : ByteArray).data.toList = y from rfl] at C
        obtain ⟨q, hq⟩ : ∃ q, q = keyB x := ⟨_, rfl⟩
        rw [← hq] at F hst
        obtain ⟨sx, hsx⟩ : ∃ s : ByteArray, s = ⟨x.toArray⟩ := ⟨_, rfl⟩
        obtain ⟨sy, hsy⟩ : ∃ s : ByteArray, s = ⟨y.toArray⟩ := ⟨_, rfl⟩
        rw [← hsx] at e3 F C
        rw [← hsy] at f3 C
        obtain ⟨z, hz⟩ : ∃ z, z = cmpL y x := ⟨_, rfl⟩
        rw [← hz] at C hst
        have F := Lib.hid F
        have C := Lib.hid C
        clear hx hy hq hsx hsy hz g3 hx9 hy9 hc4 hc5 hjI a0 a1
        have a0 : (0 : Int) ≤ (i' : Int) := by omega
        have a1 : (i' : Int) + 1 < (ks.length : Int) := by omega
        have a2 : (0 : Int) < (i' : Int) + 1 := by omega
        have a4 : (0 : Int) ≤ (i' : Int) + 1 := by omega
        have a5 : (i' : Int) < (ks.length : Int) := by omega
        have q2 : IntKind.i64.wrap ((i' : Int) + 1 - 1) = (i' : Int) := by rw [IntWalk.i64_in _ (by omega)]; omega
        have q3 : ((i' : Int) + 1).toNat = i' + 1 := by omega
        have q5 : IntKind.i64.wrap (i' : Int) = (i' : Int) := IntWalk.i64_in _ (by omega)
        have a6 : i' < ks.length := by omega
        cases q
        · have HN := Lib.hid (show keysB l ks = false by rw [HK.out, hst, Bool.false_and, Bool.and_false])
          clear hst
          go_upto_region 4 with fail
          go_quiet (first | (go_at_call 64; exact Calls.quiet_of_same (F.out _)) | (go_at_call 65; exact Calls.quiet_of (C.out _)))
          have HS := Lib.hid (below_drewN HB.out nq)
          clear q2 q3 q5
          go_wp2_with fail
          go_ret
          exact ⟨by rw [HN.out]; rfl, HB0.out.trans (HS.out.mono HB0.out.size)⟩
        · go_upto_region 4 with fail
          go_quiet (first | (go_at_call 64; exact Calls.quiet_of_same (F.out _)) | (go_at_call 65; exact Calls.quiet_of (C.out _)))
          have HS := Lib.hid (below_drewN HB.out nq)
          clear q2 q3 q5
          by_cases hz0 : z < 0
          · have HN := Lib.hid (show DK ks 0 = DK ks (i' + 2) by rw [hst, decide_eq_true hz0, Bool.true_and, Bool.true_and])
            have u1 : ¬ (0 : Int) ≤ z := by omega
            clear hst
            go_wp2_with fail
            exact ⟨⟨i' + 2, by omega, by go_num, HN, HS⟩, by simp [RowKit.intOf]; omega⟩
          · have HN := Lib.hid (show keysB l ks = false by rw [HK.out, hst, decide_eq_false hz0, Bool.false_and, Bool.and_false, Bool.and_false])
            have u1 : (0 : Int) ≤ z := by omega
            clear hst
            go_wp2_with fail
            go_ret
            exact ⟨by rw [HN.out]; rfl, HB0.out.trans (HS.out.mono HB0.out.size)⟩
    · have hjl : j = ks.length := by omega
      have HN := Lib.hid (show keysB l ks = decide (ks.length = l.length) by rw [HK.out, HE.out, hjl, DK_end, Bool.and_true])
      have hjI : ¬ (j : Int) < (ks.length : Int) := by omega
      clear hjl hlt
      by_cases hq : ks.length = l.length
      · have gq : ((ks.length : Int) == (l.length : Int)) = true := by rw [beq_iff_eq]; omega
        rw [decide_eq_true hq] at HN
        clear hq
        go_wp2_with fail
        go_ret
        exact ⟨by rw [HN.out]; rfl, HB0.out.trans (HB.out.mono HB0.out.size)⟩
      · have gq : ((ks.length : Int) == (l.length : Int)) = false := by rw [beq_eq_false_iff_ne]; omega
        rw [decide_eq_false hq] at HN
        clear hq
        go_wp2_with fail
        go_ret
        exact ⟨by rw [HN.out]; rfl, HB0.out.trans (HB.out.mono HB0.out.size)⟩
end Go.Proofs.YtabopneehhnhfabDoor
