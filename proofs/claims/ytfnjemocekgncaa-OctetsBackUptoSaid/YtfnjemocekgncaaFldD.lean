/- Contracts of octets.Valid and octets.Record. -/
import Derived.Test.YtfnjemocekgncaaFldC
namespace Go.Proofs.Ytfnjemocekgncaa
open Go.RowKit Go.Lib

set_option maxHeartbeats 4000000 in
theorem Valid_any (m : Nat) (k i : Int) (s : ByteArray) (v : Option Addr) (c : Nat) (l : List Fd) (hlen : l.length ≤ 9223372036854775807) (w : World) (hr : ReadsF m w v l) :
    Calls Try.prog 23 #[.agg #[.int .i64 k, .int .i64 i, .string s, .slice v l.length c]] w (ValidPost (vErr 128 (.mk k i s l)) w) := by
  have HR := Lib.hid hr
  clear hr
  go_enter Try.func23, Try.ntmps23
  go_wp2_with fail
  go_fit (validAt_all 128 1 m k i s v c l _ (by omega) (by omega) hlen (ReadsF.below ((Below.refl w.heap.size w).alloc (Nat.le_refl _) _) m v l HR.out))
  rintro e w1 ⟨rfl, hb⟩
  have HB := Lib.hid (((Below.refl w.heap.size w).alloc (Nat.le_refl _) _).trans (hb.mono (by simp)))
  clear hb
  go_wp2_with fail
  go_ret
  exact ⟨rfl, HB.out⟩

theorem grown_of_below {w w' : World} (h : Below w.heap.size w w') (row : Option Nat) : w.grownBy w' row := ⟨h.os, h.tape, h.output, h.size, fun k hk _ => h.block k hk⟩
theorem own_below {w w' : World} {B n : Nat} {v : Value} {xs : List Value} (ho : w.ownsRow B 5 1 v n xs) (h : Below w.heap.size w w') : w'.ownsRow B 5 1 v n xs :=
  ho.kept (grown_of_below h none) (by cases v.ownBlock <;> simp)
theorem keep_below {w w' : World} (h : Below w.heap.size w w') : KeepT w w' := fun k _ _ _ h1 _ => (h.block k (Array.getElem?_eq_some_iff.1 h1).1).trans h1

theorem appendField_zero (m n B : Nat) (w : World) (sv : Value) (xs : List Value) (hBw : B ≤ w.heap.size) (hown : w.ownsRow B 5 1 sv n xs) (hlim : n + 11 ≤ 140737488355328) :
    Calls Try.prog 35 #[sv, .agg #[.int .i64 0, .int .i64 0, .string ⟨#[]⟩, .slice none 0 0]] w (Owns B n xs w (encF (m + 1) (.mk 0 0 ⟨#[]⟩ []))) :=
  appendField_int m n 0 ⟨#[]⟩ none 0 [] B w sv xs (by omega) (by omega) hBw hown hlim

/-- The encoding of a field in a record: of an invalid one, that of the number 0. -/
def encV (m : Nat) (f : Fd) : List UInt8 := if vErr 128 f ≠ 0 then encF m (.mk 0 0 ⟨#[]⟩ []) else encF m f
def encR (m : Nat) (l : List Fd) : List UInt8 := Lib.uvarint l.length ++ l.flatMap (encV m)

set_option maxHeartbeats 4000000 in
set_option maxRecDepth 100000 in
theorem Record_any (m : Nat) (v : Option Addr) (c : Nat) (l : List Fd) (w : World) (hlen : l.length ≤ 9223372036854775807) (hr : ReadsF m w v l) (hlim : (encR m l).length + 10 ≤ 140737488355328) :
    Calls Try.prog 25 #[.slice v l.length c] w (Owns w.heap.size 0 [] w (encR m l)) := by
  have HR := Lib.hid hr
  unfold encR at hlim
  rw [List.length_append] at hlim
  have HPU := Lib.hid (PutUint_any l.length (by omega) w)
  clear hr
  go_enter Try.func25, Try.ntmps25
  go_wp2_with fail
  go_fit (HPU.out)
  rintro e w1 ⟨v1, rfl, hown1, hb1, hk1⟩
  have HD1 := Lib.hid (show Done w.heap.size 0 [] w (Lib.uvarint l.length) v1 w1 from ⟨hown1, hb1, hk1⟩)
  clear hown1 hb1 hk1
  go_wp2_with fail
  go_loopw [3, 5, 12] (fun s3 _ s12 wr => ∃ j : Nat, j ≤ l.length ∧ s12 = .int .i64 j ∧ Done w.heap.size 0 [] w (Lib.uvarint l.length ++ (l.take j).flatMap (encV m)) s3 wr) (fun _ _ s12 _ => l.length - (RowKit.intOf s12).toNat)
  case atStart => exact ⟨0, by omega, rfl, by simpa using HD1.out⟩
  case round =>
    obtain ⟨j, hj, rfl, hdone⟩ := hrel
    have HDN := Lib.hid hdone
    have hzr : w.heap.size ≤ wr.heap.size := hdone.2.1.size
    have HBR := Lib.hid hdone.2.1
    clear hdone HD1
    by_cases hlt : j < l.length
    · cases m with
      | zero => exact absurd hlt (by have h : l = [] := HR.out; rw [h]; simp)
      | succ m =>
        obtain ⟨b, off, k', i', s', av, c', l', h0, rfl, h2, h3, h4, h5, h6, h7, h8, h9, h10, h11, h12⟩ := HR.out j hlt
        have g3 := (HBR.out.cell (p := ⟨b, _, none⟩) h2).trans h3
        have g4 := (HBR.out.cell (p := ⟨b, _, none⟩) h2).trans h4
        have g5 := (HBR.out.cell (p := ⟨b, _, none⟩) h2).trans h5
        have g6 := (HBR.out.cell (p := ⟨b, _, none⟩) h2).trans h6
        have hft := flat_take (encV (m + 1)) l j _ h0
        have hfl := flat_len (encV (m + 1)) l (j + 1)
        rw [hft, List.length_append] at hfl
        have HFT := Lib.hid hft
        have hlm : 0 + (Lib.uvarint l.length ++ (l.take j).flatMap (encV (m + 1))).length + (encV (m + 1) (.mk k' i' s' l')).length + 10 ≤ 140737488355328 := by
          simp only [List.length_append]
          omega
        have HLM := Lib.hid hlm
        have H12 := Lib.hid h12
        clear h0 h2 h3 h4 h5 h6 h7 h8 h12 hft hfl hlm
        go_wp2_with fail
        go_fit (Valid_any m k' i' s' av c' l' h11 _ (ReadsF.below ((Below.refl wr.heap.size wr).alloc (Nat.le_refl _) _) m av l' (ReadsF.below HBR.out m av l' H12.out)))
        rintro e wA ⟨rfl, hbA⟩
        have c0 : wA.cell? ⟨wr.heap.size, 0, none⟩ = some (.int .i64 k') := (hbA.cell (p := ⟨wr.heap.size, 0, none⟩) (by simp)).trans (by simp [World.cell?_alloc_new])
        have c1 : wA.cell? ⟨wr.heap.size, 1, none⟩ = some (.int .i64 i') := (hbA.cell (p := ⟨wr.heap.size, 1, none⟩) (by simp)).trans (by simp [World.cell?_alloc_new])
        have c2 : wA.cell? ⟨wr.heap.size, 2, none⟩ = some (.string s') := (hbA.cell (p := ⟨wr.heap.size, 2, none⟩) (by simp)).trans (by simp [World.cell?_alloc_new])
        have c3 : wA.cell? ⟨wr.heap.size, 3, none⟩ = some (.slice av l'.length c') := (hbA.cell (p := ⟨wr.heap.size, 3, none⟩) (by simp)).trans (by simp [World.cell?_alloc_new])
        have f0 : wA.frozen? ⟨wr.heap.size, 0, none⟩ = false := (hbA.frozen (p := ⟨wr.heap.size, 0, none⟩) (by simp)).trans (by simp [go_sem])
        have f1 : wA.frozen? ⟨wr.heap.size, 1, none⟩ = false := (hbA.frozen (p := ⟨wr.heap.size, 1, none⟩) (by simp)).trans (by simp [go_sem])
        have f2 : wA.frozen? ⟨wr.heap.size, 2, none⟩ = false := (hbA.frozen (p := ⟨wr.heap.size, 2, none⟩) (by simp)).trans (by simp [go_sem])
        have f3 : wA.frozen? ⟨wr.heap.size, 3, none⟩ = false := (hbA.frozen (p := ⟨wr.heap.size, 3, none⟩) (by simp)).trans (by simp [go_sem])
        have hzA : wr.heap.size < wA.heap.size := by have := hbA.size; simp at this; omega
        have HW := Lib.hid (((Below.refl wr.heap.size wr).alloc (Nat.le_refl _) _).trans (hbA.mono (by simp)))
        clear hbA g3 g4 g5 g6
        by_cases hr0 : vErr 128 (.mk k' i' s' l') = 0
        · have HV := Lib.hid (show encV (m + 1) (.mk k' i' s' l') = encF (m + 1) (.mk k' i' s' l') by unfold encV; rw [if_neg (by simp [hr0])])
          have HWW := HW
          rw [hr0]
          clear hr0 f0 f1 f2 f3
          have hlm2 := HLM.out
          rw [HV.out] at hlm2
          go_wp2_with fail
          go_fit (appendField_all m _ k' i' s' av c' l' w wA _ _ h9 h10 h11 H12.out (HBR.out.trans (HW.out.mono hzr)) (by omega) (own_below HDN.out.1 HW.out) hlm2)
          intro e w3 hO
          obtain ⟨v3, rfl, hD3⟩ := HDN.out.app (HWW.out.mono hzr) (keep_below HWW.out) hO
          have HD3 := Lib.hid hD3
          clear hO hD3
          go_wp2_with fail
          refine ⟨⟨j + 1, by omega, by go_num, ?_⟩, by simp [RowKit.intOf]; omega⟩
          have := HD3.out
          rw [HFT.out, HV.out]
          simpa only [List.append_assoc] using this
        · obtain ⟨r, hr⟩ : ∃ r, r = vErr 128 (.mk k' i' s' l') := ⟨_, rfl⟩
          rw [← hr] at hr0 ⊢
          have HV := Lib.hid (show encV (m + 1) (.mk k' i' s' l') = encF (m + 1) (.mk 0 0 ⟨#[]⟩ []) by unfold encV; rw [if_pos (by rw [← hr]; exact hr0)])
          have u1 : ((r : Int) != 0) = true := by rw [bne_iff_ne]; omega
          clear hr hr0
          have hlm2 := HLM.out
          rw [HV.out] at hlm2
          have hz2 : 1 ≤ (encF (m + 1) (.mk 0 0 ⟨#[]⟩ [])).length := by simp [encF]
          have HWW := Lib.hid ((((HW.out.setCell (p := ⟨wr.heap.size, 0, none⟩) (Nat.le_refl _) (.int .i64 0)).setCell (p := ⟨wr.heap.size, 1, none⟩) (Nat.le_refl _) (.int .i64 0)).setCell (p := ⟨wr.heap.size, 2, none⟩) (Nat.le_refl _) (.string ⟨#[]⟩)).setCell (p := ⟨wr.heap.size, 3, none⟩) (Nat.le_refl _) (.slice none 0 0))
          go_wp2_with fail
          go_fit (appendField_zero m _ w.heap.size _ _ _ (by simp [World.setCell]; omega) (own_below HDN.out.1 HWW.out) (by omega))
          intro e w3 hO
          obtain ⟨v3, rfl, hD3⟩ := HDN.out.app (HWW.out.mono hzr) (keep_below HWW.out) hO
          have HD3 := Lib.hid hD3
          clear hO hD3
          go_wp2_with fail
          refine ⟨⟨j + 1, by omega, by go_num, ?_⟩, by simp [RowKit.intOf]; omega⟩
          have := HD3.out
          rw [HFT.out, HV.out]
          simpa only [List.append_assoc] using this
    · obtain rfl : j = l.length := by omega
      go_wp2_with fail
      go_ret
      have := HDN.out
      rw [List.take_of_length_le (Nat.le_refl _)] at this
      exact this.owns
end Go.Proofs.Ytfnjemocekgncaa
