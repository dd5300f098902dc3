/- The contract of the document's Record (octets). -/
import Derived.Test.YtfnjemocekgncaaFldF
namespace Go.Proofs.Ytfnjemocekgncaa
open Go.RowKit Go.Lib

set_option maxHeartbeats 4000000 in
set_option maxRecDepth 100000 in
theorem refRecord_any (m : Nat) (v : Option Addr) (c : Nat) (l : List Fd) (w : World) (hlen : l.length ≤ 9223372036854775807) (hr : ReadsF m w v l) (hlim : (encR m l).length + 10 ≤ 140737488355328) :
    Calls Try.prog 26 #[.slice v l.length c] w (Owns w.heap.size 0 [] w (encR m l)) := by
  obtain ⟨i0, hi, hz0, hz1, hz2⟩ := info_parts info8
  have HR := Lib.hid hr
  unfold encR at hlim
  rw [List.length_append] at hlim
  have HPU := Lib.hid (refPutUint_any l.length (by omega) w)
  clear hr
  go_enter Try.func26, Try.ntmps26
  go_wp2_with fail
  go_fit (HPU.out)
  rintro e w1 ⟨v1, rfl, hown1, hb1, hk1⟩
  have HD1 := Lib.hid (show Done w.heap.size 0 [] w (Lib.uvarint l.length) v1 w1 from ⟨hown1, hb1, hk1⟩)
  clear hown1 hb1 hk1
  go_wp2_with fail
  go_loopw [3, 4] (fun s3 s4 wr => ∃ j : Nat, j ≤ l.length ∧ s4 = .int .i64 j ∧ Done w.heap.size 0 [] w (Lib.uvarint l.length ++ (l.take j).flatMap (encV m)) s3 wr) (fun _ s4 _ => l.length - (RowKit.intOf s4).toNat)
  case atStart => exact ⟨0, by omega, rfl, by simpa using HD1.out⟩
  case round =>
    obtain ⟨j, hj, rfl, hdone⟩ := hrel
    have HDN := Lib.hid hdone
    have hzr : w.heap.size ≤ wr.heap.size := hdone.2.1.size
    have HBR := Lib.hid hdone.2.1
    clear hdone HD1
    by_cases hlt : j < l.length
    · cases m with
      | zero => exact absurd hlt (by have h : l = [] := HR.out; rw [h]; simp)
      | succ m =>
        obtain ⟨b, off, k', i', s', av, c', l', h0, rfl, h2, h3, h4, h5, h6, h7, h8, h9, h10, h11, h12⟩ := HR.out j hlt
        have g3 := (HBR.out.cell (p := ⟨b, _, none⟩) h2).trans h3
        have g4 := (HBR.out.cell (p := ⟨b, _, none⟩) h2).trans h4
        have g5 := (HBR.out.cell (p := ⟨b, _, none⟩) h2).trans h5
        have g6 := (HBR.out.cell (p := ⟨b, _, none⟩) h2).trans h6
        have hft := flat_take (encV (m + 1)) l j _ h0
        have hfl := flat_len (encV (m + 1)) l (j + 1)
        rw [hft, List.length_append] at hfl
        have HFT := Lib.hid hft
        have hlm : 0 + (Lib.uvarint l.length ++ (l.take j).flatMap (encV (m + 1))).length + (encV (m + 1) (.mk k' i' s' l')).length + 10 ≤ 140737488355328 := by
          simp only [List.length_append]
          omega
        have HLM := Lib.hid hlm
        have H12 := Lib.hid h12
        have HX := Lib.hid (And.intro h2 (And.intro h3 (And.intro h4 (And.intro h5 h6))))
        clear h0 h2 h3 h4 h5 h6 h7 h8 h12 hft hfl hlm
        go_wp2_with fail
        go_fit (refValid_any m k' i' s' av c' l' h11 _ (ReadsF.below HBR.out m av l' H12.out))
        rintro e wA ⟨rfl, hbA⟩
        have HDA := Lib.hid (show Done w.heap.size 0 [] w (Lib.uvarint l.length ++ (l.take j).flatMap (encV (m + 1))) _ wA from ⟨own_below HDN.out.1 hbA, HBR.out.trans (hbA.mono hzr), HDN.out.2.2.trans (keep_below hbA)⟩)
        have HBA := Lib.hid HDA.out.2.1
        have hzA : w.heap.size ≤ wA.heap.size := HDA.out.2.1.size
        clear hbA HDN HBR g3 g4 g5 g6
        have g3 := (HBA.out.cell (p := ⟨b, _, none⟩) HX.out.1).trans HX.out.2.1
        have g4 := (HBA.out.cell (p := ⟨b, _, none⟩) HX.out.1).trans HX.out.2.2.1
        have g5 := (HBA.out.cell (p := ⟨b, _, none⟩) HX.out.1).trans HX.out.2.2.2.1
        have g6 := (HBA.out.cell (p := ⟨b, _, none⟩) HX.out.1).trans HX.out.2.2.2.2
        have hzlen : (Lib.uvarint l.length ++ (l.take j).flatMap (encV (m + 1))).length ≤ 140737488355318 := by have := HLM.out; omega
        obtain ⟨d, hd⟩ : ∃ d, d = Lib.uvarint l.length ++ (l.take j).flatMap (encV (m + 1)) := ⟨_, rfl⟩
        have HD := Lib.hid hd
        rw [← hd] at hzlen HDA HLM
        clear hd
        by_cases hr0 : vErr 128 (.mk k' i' s' l') = 0
        · have HV := Lib.hid (show encV (m + 1) (.mk k' i' s' l') = encF (m + 1) (.mk k' i' s' l') by unfold encV; rw [if_neg (by simp [hr0])])
          rw [hr0]
          have hlm2 := HLM.out
          rw [HV.out] at hlm2
          have IH := Lib.hid (rfield_all m k' i' s' av c' l' wA h9 h10 h11 (ReadsF.below HBA.out m av l' H12.out) (by omega))
          have hrp : 1 ≤ (encF (m + 1) (.mk k' i' s' l')).length := by simp [encF]
          obtain ⟨r, hr⟩ : ∃ r, r = encF (m + 1) (.mk k' i' s' l') := ⟨_, rfl⟩
          rw [← hr] at IH hrp hlm2 HV
          clear hr0 hr h9 h10
          go_wp2_with fail
          go_fit (IH.out)
          rintro e w3 ⟨v3, rfl, ho3, hb3, _⟩
          obtain ⟨a3, c3, rfl, _, _, hr3⟩ := own_reads (l := r) ho3 (by omega)
          obtain ⟨b3, o3, rfl⟩ := reads_some hr3 (by omega)
          have HOW3 := Lib.hid (own_below HDA.out.1 hb3)
          have HB3 := Lib.hid (HBA.out.trans (hb3.mono hzA))
          have HK3 := Lib.hid (HDA.out.2.2.trans (keep_below hb3))
          have hz3 : w.heap.size ≤ w3.heap.size := HB3.out.size
          have HR3 := Lib.hid hr3
          clear ho3 hb3 hr3
          go_wp2_with (at_builtin; refine wpList_append_own _ rfl _ _ 23 rfl w.heap.size 5 i0 (.int .u8 0) 1 1 Try.underlying23 hi hz0 hz1 hz2 rfl (by decide) _ _ _ rfl HOW3.out ⟨b3, o3, none⟩ r.length c3 (Lib.byteCells r) rfl ?ly ?c1y ?c2y ?c3y ?c4y ?c5y ?_)
          case ly => simp [Lib.byteCells]
          case c1y => exact reads_cells HR3.out
          case c2y => exact byteCells_one' r
          case c3y => unfold maxLen; omega
          case c4y => omega
          case c5y => omega
          intro v7 w7 ho7 hg7 _
          have HB7 := Lib.hid (HB3.out.grown hg7 hz3 (fun k hk => by have := (HOW3.out.lt k hk).1; omega))
          have HK7 := Lib.hid (HK3.out.append HOW3.out hg7)
          have HO7 := Lib.hid (show w7.ownsRow w.heap.size 5 1 v7 (0 + (d ++ r).length) ([] ++ Lib.byteCells (d ++ r)) by
            rw [byteCells_app, List.length_append, Nat.zero_add, List.nil_append]
            exact ho7)
          clear ho7 hg7
          go_wp2_with fail
          refine ⟨⟨j + 1, by omega, by go_num, ?_⟩, by simp [RowKit.intOf]; omega⟩
          rw [HFT.out, HV.out, ← List.append_assoc, ← HD.out]
          exact ⟨HO7.out, HB7.out, HK7.out⟩
        · obtain ⟨r, hr⟩ : ∃ r, r = vErr 128 (.mk k' i' s' l') := ⟨_, rfl⟩
          rw [← hr] at hr0 ⊢
          have HV := Lib.hid (show encV (m + 1) (.mk k' i' s' l') = [0, 0] by unfold encV; rw [if_pos (by rw [← hr]; exact hr0)]; simp [encF, kindB, Lib.zigzag, Lib.uvarint_small])
          have u1 : ((r : Int) != 0) = true := by rw [bne_iff_ne]; omega
          have hlm2 := HLM.out
          rw [HV.out] at hlm2
          simp only [List.length_cons, List.length_nil] at hlm2
          have HOWA := Lib.hid (HDA.out.1)
          have HKA := Lib.hid (HDA.out.2.2)
          clear hr hr0 g3 g4 g5 g6
          have HBA1 := Lib.hid (HBA.out.alloc hzA (Obj.cells #[.int .u8 0, .int .u8 0] 5))
          have HOWB := Lib.hid (HOWA.out.alloc (Obj.cells #[.int .u8 0, .int .u8 0] 5))
          have HKB := Lib.hid (HKA.out.alloc (Obj.cells #[.int .u8 0, .int .u8 0] 5))
          go_wp2_with (at_builtin; refine wpList_append_own _ rfl _ _ 23 rfl w.heap.size 5 i0 (.int .u8 0) 1 1 Try.underlying23 hi hz0 hz1 hz2 rfl (by decide) _ _ _ rfl HOWB.out ⟨wA.heap.size, 0, none⟩ 2 2 [Value.int .u8 0, Value.int .u8 0] rfl rfl ?c1z ?c2z ?c3z ?c4z ?c5z ?_)
          case c1z =>
            intro j u hj
            match j, hj with
            | 0, hj => simp at hj; subst hj; simp [Addr.add]
            | 1, hj => simp at hj; subst hj; simp [Addr.add, go_sem]
          case c2z => intro u hu; simp at hu; subst hu; rfl
          case c3z => unfold maxLen; omega
          case c4z => omega
          case c5z => simp; omega
          intro v7 w7 ho7 hg7 _
          have HB7 := Lib.hid (HBA1.out.grown hg7 (by simp; omega) (fun k hk => by have := (HOWB.out.lt k hk).1; omega))
          have HK7 := Lib.hid (HKB.out.append HOWB.out hg7)
          have HO7 := Lib.hid (show w7.ownsRow w.heap.size 5 1 v7 (0 + (d ++ [0, 0]).length) ([] ++ Lib.byteCells (d ++ [0, 0])) by
            rw [byteCells_app, List.length_append, Nat.zero_add, List.nil_append]
            exact ho7)
          clear ho7 hg7
          go_wp2_with fail
          refine ⟨⟨j + 1, by omega, by go_num, ?_⟩, by simp [RowKit.intOf]; omega⟩
          rw [HFT.out, HV.out, ← List.append_assoc, ← HD.out]
          exact ⟨HO7.out, HB7.out, HK7.out⟩
    · obtain rfl : j = l.length := by omega
      go_wp2_with fail
      go_ret
      have := HDN.out
      rw [List.take_of_length_le (Nat.le_refl _)] at this
      exact this.owns
end Go.Proofs.Ytfnjemocekgncaa
