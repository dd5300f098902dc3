/- OctetsBack, of what is of bulk at most 1048576: fields are decoded from their record, its proper prefixes are truncated, and what is decoded is the record of its fields. -/
import Derived.Test.YtfnjemocekgncaaOpenF
import Derived.Test.YtfnjemocekgncaaOpenB
import Derived.Test.YtfnjemocekgncaaPrsH
import Derived.Test.YtfnjemocekgncaaRndB
import Derived.Test.YtfnjemocekgncaaLives2
import Derived.JoinedCond
import Derived.Deep.RegionHeld3
import Derived.Deep.RegionWith
import Derived.Deep.DeepCutAuto
import Derived.Deep.CutBlock
import Derived.ProofKit
import Derived.OpenShut
namespace Go.Proofs.Ytfnjemocekgncaa.octetsBack
open Go.ChangeShapes Go.WideShapes Go.ChangeAt Go.RowKit
set_option linter.unusedVariables false

theorem own : ownKnob Try.prog.godebug = none := by kernel_rfl
theorem laidOut : laidOutB Try.prog = true := by kernel_rfl

theorem ReadsF.mono {w : World} : ∀ (m m' : Nat) (v : Option Addr) (l : List Fd), m ≤ m' → ReadsF m w v l → ReadsF m' w v l
  | 0, 0, _, _, _, h => h
  | 0, m' + 1, v, l, _, h => by
    have : l = [] := h
    subst this
    intro j hj
    simp at hj
  | m + 1, 0, _, _, hm, _ => by omega
  | m + 1, m' + 1, v, l, hm, h => by
    intro j hj
    obtain ⟨b, off, k, i, s, av, c, l', h0, h1, h2, h3, h4, h5, h6, h7, h8, h9, h10, h11, h12⟩ := h j hj
    exact ⟨b, off, k, i, s, av, c, l', h0, h1, h2, h3, h4, h5, h6, h7, h8, h9, h10, h11, ReadsF.mono m m' av l' (by omega) h12⟩
/-- What a list says of all its fields so far. -/
def allV (l : List Fd) (j : Nat) : Bool := (l.take j).all fun f => vErr 128 f == 0
theorem allV_step (l : List Fd) (j : Nat) (f : Fd) (h : l[j]? = some f) : allV l (j + 1) = (allV l j && (vErr 128 f == 0)) := by
  obtain ⟨hj, rfl⟩ := List.getElem?_eq_some_iff.1 h
  unfold allV
  rw [List.take_succ_eq_append_getElem hj, List.all_append]
  simp
theorem allV_norm (l : List Fd) (h : allV l l.length = true) : l.map normF = l := by
  unfold allV at h
  rw [List.take_length, List.all_eq_true] at h
  refine map_same normF l (fun f hf => ?_)
  have := h f hf
  unfold normF
  rw [if_neg (by simpa using this)]
theorem slice_to (ad : Addr) (len cap h : Nat) (h0 : h ≤ cap) (hc : 0 < cap) (w : World) : (Instr.sliceAt 23 (.slice (some ad) len cap) none (some (.int .i64 (h : Int))) none).run Try.prog w = .ok (.slice (some ad) h cap) w := by
  rw [run_sliceAt_slice _ _ _ _ _ _ Try.underlying23, run_slice_h _ _ _ _ _ Try.underlying23 .i64 (h : Int) (by omega) (by omega)]
  have hs : (sizeOf (Try.prog.elem 23)).run Try.prog w = .ok 1 w := by kernel_rfl
  rw [hs]
  simp [Result.andThen, sliced, Addr.add]

set_option maxHeartbeats 4000000 in
set_option maxRecDepth 100000 in
theorem walkN (m : Nat) (v : Option Addr) (cap : Nat) (l : List Fd) (hlen : l.length ≤ 9223372036854775807) (hlim : (encR m l).length + 10 ≤ 1099511627776) (vb : Option Addr) (capb : Nat) (b : List UInt8) (hlb : b.length ≤ capb) (hcb : capb ≤ 9223372036854775807) (cut : Nat) (hcut : cut ≤ 65535) (w : World) (hr : ReadsF m w v l) (hrb : ReadsBytes w vb b) :
    Calls Try.prog 8 #[.slice v l.length cap, .slice vb b.length capb, .int .u16 cut] w fun e w' => e = .returned (.bool true) ∧ Below w.heap.size w w' := by
  have HR := Lib.hid hr
  have HRB := Lib.hid hrb
  have HLIM := Lib.hid hlim
  clear hr hrb hlim
  by_cases hk : 200 < l.length
  · go_enter Try.func8, Try.ntmps8
    go_wp2_with fail
    go_fit (lives2_any _)
    rintro e w3 ⟨rfl, hb3⟩
    have B3 := Lib.hid hb3
    clear hb3
    go_wp2_with fail
    go_ret
    exact ⟨rfl, B3.out⟩
  by_cases hk2 : 2000 < b.length
  · go_enter Try.func8, Try.ntmps8
    go_wp2_with fail
    go_fit (lives2_any _)
    rintro e w3 ⟨rfl, hb3⟩
    have B3 := Lib.hid hb3
    clear hb3
    go_wp2_with fail
    go_ret
    exact ⟨rfl, B3.out⟩
  go_enter Try.func8, Try.ntmps8
  go_wp2_with fail
  go_loopw [7, 8] (fun s7 s8 wr => ∃ j : Nat, j ≤ l.length ∧ s8 = .int .i64 j ∧ s7 = .bool (allV l j) ∧ Below w.heap.size w wr) (fun _ s8 _ => l.length - (RowKit.intOf s8).toNat)
  case atStart => exact ⟨0, by omega, rfl, rfl, Below.refl _ _⟩
  case round =>
    obtain ⟨j, hj, rfl, rfl, hbel⟩ := hrel
    have HB := Lib.hid hbel
    have hz := hbel.size
    clear hbel
    by_cases hlt : j < l.length
    · cases m with
      | zero => exact absurd hlt (by have h : l = [] := HR.out; rw [h]; simp)
      | succ m =>
        obtain ⟨b0, off, k', i', s', av, c', l', h0, rfl, h2, h3, h4, h5, h6, h7, h8, h9, h10, h11, h12⟩ := HR.out j hlt
        have hst := allV_step l j _ h0
        have g3 := (HB.out.cell (p := ⟨b0, _, none⟩) h2).trans h3
        have g4 := (HB.out.cell (p := ⟨b0, _, none⟩) h2).trans h4
        have g5 := (HB.out.cell (p := ⟨b0, _, none⟩) h2).trans h5
        have g6 := (HB.out.cell (p := ⟨b0, _, none⟩) h2).trans h6
        have T1 := Lib.hid (Valid_any m k' i' s' av c' l' h11 wr (ReadsF.below HB.out m av l' h12))
        obtain ⟨r, hr⟩ : ∃ r, r = vErr 128 (.mk k' i' s' l') := ⟨_, rfl⟩
        rw [← hr] at T1 hst
        have HST := Lib.hid hst
        clear h0 h2 h3 h4 h5 h6 h7 h8 h9 h10 h12 hr hst
        by_cases hf : allV l j = true
        · rw [hf]
          have HF := Lib.hid hf
          clear hf
          go_wp2_with fail
          go_fit (T1.out)
          rintro e w2 ⟨rfl, hb2⟩
          have HB2 := Lib.hid (HB.out.trans (hb2.mono hz))
          clear hb2
          by_cases hr0 : r = 0
          · have u1 : ((r : Int) == 0) = true := by rw [beq_iff_eq]; omega
            have HE := Lib.hid (show allV l (j + 1) = true by rw [HST.out, HF.out, hr0]; rfl)
            clear hr0
            go_wp2_with fail
            exact ⟨⟨j + 1, by omega, by go_num, by rw [HE.out], HB2.out⟩, by simp [RowKit.intOf]; omega⟩
          · have u1 : ((r : Int) == 0) = false := by rw [beq_eq_false_iff_ne]; omega
            have HE := Lib.hid (show allV l (j + 1) = false by rw [HST.out, HF.out]; simpa using hr0)
            clear hr0
            go_wp2_with fail
            exact ⟨⟨j + 1, by omega, by go_num, by rw [HE.out], HB2.out⟩, by simp [RowKit.intOf]; omega⟩
        · have hf2 : allV l j = false := by simpa using hf
          rw [hf2]
          have HE := Lib.hid (show allV l (j + 1) = false by rw [HST.out, hf2]; rfl)
          clear hf hf2
          go_wp2_with fail
          exact ⟨⟨j + 1, by omega, by go_num, by rw [HE.out], HB.out⟩, by simp [RowKit.intOf]; omega⟩
    · obtain rfl : j = l.length := by omega
      obtain ⟨P1, P2⟩ := record_back m v l HR.out (by have := HLIM.out; omega)
      have T1 := Lib.hid (Record_any m v cap l wr hlen (ReadsF.below HB.out m v l HR.out) (by have := HLIM.out; omega))
      have hpos : 1 ≤ (encR m l).length := by unfold encR; rw [List.length_append]; have := Lib.uvarint_pos l.length; omega
      have hlim : (encR m l).length + 10 ≤ 1099511627776 := HLIM.out
      obtain ⟨d, hd⟩ : ∃ d, d = encR m l := ⟨_, rfl⟩
      rw [← hd] at P1 P2 T1 hpos hlim
      have P1 := Lib.hid P1
      have P2 := Lib.hid P2
      clear hd
      go_wp2_with fail
      go_fit (T1.out)
      rintro e w1 ⟨v1, rfl, ho1, hb1, _⟩
      have HB1 := Lib.hid (HB.out.trans (hb1.mono hz))
      have hz1 : w.heap.size ≤ w1.heap.size := HB1.out.size
      obtain ⟨a1, c1, rfl, hdc, hcm, hr1⟩ := own_reads (l := d) ho1 (by omega)
      obtain ⟨b1, o1, rfl⟩ := reads_some hr1 (by omega)
      have R1 := Lib.hid hr1
      have T2 := Lib.hid (Fields_any _ c1 d hdc (by unfold maxLen at hcm; omega) (by omega) w1 hr1)
      rw [P1.out] at T2
      clear ho1 hb1 hr1
      go_wp2_with fail
      go_fit (T2.out)
      rintro e w2 ⟨a2, c2, he2, hb2, hr2, hl2⟩
      have he3 : e = .returned (.tuple #[.slice a2 l.length c2, .int .i64 0]) := by rw [he2, List.length_map]; rfl
      subst he3
      have HB2 := Lib.hid (HB1.out.trans (hb2.mono hz1))
      have hz2 : w.heap.size ≤ w2.heap.size := HB2.out.size
      have R1' := Lib.hid (R1.out.below hb2)
      have R2 := Lib.hid hr2
      have hq : cut % d.length < d.length := Nat.mod_lt _ (by omega)
      have hql : (d.take (cut % d.length)).length = cut % d.length := by rw [List.length_take]; omega
      have hsl := fun w => slice_to ⟨b1, o1, none⟩ d.length c1 (cut % d.length) (by omega) (by omega) w
      have T3 := fun (wx : World) (hb : Below w2.heap.size w2 wx) => Fields_any (some ⟨b1, o1, none⟩) c1 (d.take (cut % d.length)) (by omega) (by unfold maxLen at hcm; omega) (by omega) wx (by
        have h9 := (R1'.out.below hb).drop 0 (cut % d.length)
        rw [List.drop_zero] at h9
        exact h9)
      rw [hql, P2.out _ hq] at T3
      have T3 := Lib.hid T3
      have TB := Lib.hid (top_back b)
      have T4 := (fun (wx : World) (hb : Below w.heap.size w wx) => Fields_any vb capb b hlb hcb (by omega) wx (HRB.out.below hb))
      obtain ⟨p, hp⟩ : ∃ p, p = pTop b := ⟨_, rfl⟩
      rw [← hp] at T4 TB
      have T4 := Lib.hid T4
      clear hp
      have c0 : ((d.length : Int) == 0) = false := by rw [beq_eq_false_iff_ne]; omega
      obtain ⟨q, hqq⟩ : ∃ q, q = cut % d.length := ⟨_, rfl⟩
      have hq9 : (cut : Int) % (d.length : Int) = (q : Int) := by rw [hqq]; rfl
      rw [← hqq] at hq hsl T3
      have HQL := Lib.hid hql
      have HHE := Lib.hid he2
      clear hb2 hr2 he2 hql hqq HHE
      by_cases hf : allV l l.length = true
      · rw [hf]
        have S1 := Lib.hid (Same_any (max m 128) v a2 cap c2 l w2 hlen (ReadsF.mono m _ v l (by omega) (ReadsF.below HB2.out m v l HR.out)) (ReadsF.mono 128 _ a2 l (by omega) (by have := R2.out; rw [show ((0, l.map normF) : Nat × List Fd).2 = l from allV_norm l hf] at this; exact this)))
        clear hf
        go_wp2_with fail
        go_fit (S1.out)
        rintro e w3 ⟨rfl, n0, hw3⟩
        have HB3 := Lib.hid (show Below w2.heap.size w2 w3 from hw3 ▸ below_drewN (Below.refl _ _) n0)
        clear hw3
        go_wp2_with fail
        go_fit (T3.out _ HB3.out)
        rintro e w4 ⟨a4, c4, he4, hb4, _, _⟩
        have he5 : e = .returned (.tuple #[.slice a4 0 c4, .int .i64 4]) := he4
        subst he5
        have HB4 := Lib.hid ((HB2.out.trans (HB3.out.mono hz2)).trans (hb4.mono (by have := HB3.out.size; omega)))
        have hz4 : w.heap.size ≤ w4.heap.size := HB4.out.size
        clear he4 hb4
        go_wp2_with fail
        go_fit (T4.out _ HB4.out)
        rintro e w5 ⟨a5, c5, rfl, hb5, hr5, hl5⟩
        have HB5 := Lib.hid (HB4.out.trans (hb5.mono hz4))
        have hz5 : w.heap.size ≤ w5.heap.size := HB5.out.size
        have R5 := Lib.hid hr5
        clear hb5 hr5
        by_cases hg : p.1 = 0
        · have u1 : ((p.1 : Int) != 0) = false := by rw [bne_eq_false_iff_eq]; omega
          have T5 := Record_any 128 a5 c5 p.2 w5 (by omega) R5.out (by rw [TB.out hg]; omega)
          rw [TB.out hg] at T5
          have T5 := Lib.hid T5
          clear hg
          go_wp2_with fail
          go_fit (T5.out)
          rintro e w6 ⟨v6, rfl, ho6, hb6, _⟩
          have HB6 := Lib.hid (HB5.out.trans (hb6.mono hz5))
          have hz6 : w.heap.size ≤ w6.heap.size := HB6.out.size
          obtain ⟨a6, c6, rfl, _, _, hr6⟩ := own_reads (l := b) ho6 (by omega)
          have R6 := Lib.hid hr6
          clear ho6 hb6 hr6
          go_wp2_with fail
          go_fit (Bytes_same _ _ c6 capb b _ R6.out (HRB.out.below HB6.out))
          rintro e w7 ⟨rfl, rfl⟩
          go_wp2_with fail
          go_fit (lives2_any _)
          rintro e w8 ⟨rfl, hb8⟩
          have B8 := Lib.hid (HB6.out.trans (hb8.mono hz6))
          clear hb8
          go_wp2_with fail
          go_ret
          exact ⟨rfl, B8.out⟩
        · have u1 : ((p.1 : Int) != 0) = true := by rw [bne_iff_ne]; omega
          clear hg
          go_wp2_with fail
          go_fit (lives2_any _)
          rintro e w8 ⟨rfl, hb8⟩
          have B8 := Lib.hid (HB5.out.trans (hb8.mono hz5))
          clear hb8
          go_wp2_with fail
          go_ret
          exact ⟨rfl, B8.out⟩
      · have hf2 : allV l l.length = false := by simpa using hf
        rw [hf2]
        clear hf hf2
        have HB3 := Lib.hid (Below.refl w2.heap.size w2)
        go_wp2_with fail
        go_fit (T3.out _ HB3.out)
        rintro e w4 ⟨a4, c4, he4, hb4, _, _⟩
        have he5 : e = .returned (.tuple #[.slice a4 0 c4, .int .i64 4]) := he4
        subst he5
        have HB4 := Lib.hid ((HB2.out.trans (HB3.out.mono hz2)).trans (hb4.mono (by have := HB3.out.size; omega)))
        have hz4 : w.heap.size ≤ w4.heap.size := HB4.out.size
        clear he4 hb4
        go_wp2_with fail
        go_fit (T4.out _ HB4.out)
        rintro e w5 ⟨a5, c5, rfl, hb5, hr5, hl5⟩
        have HB5 := Lib.hid (HB4.out.trans (hb5.mono hz4))
        have hz5 : w.heap.size ≤ w5.heap.size := HB5.out.size
        have R5 := Lib.hid hr5
        clear hb5 hr5
        by_cases hg : p.1 = 0
        · have u1 : ((p.1 : Int) != 0) = false := by rw [bne_eq_false_iff_eq]; omega
          have T5 := Record_any 128 a5 c5 p.2 w5 (by omega) R5.out (by rw [TB.out hg]; omega)
          rw [TB.out hg] at T5
          have T5 := Lib.hid T5
          clear hg
          go_wp2_with fail
          go_fit (T5.out)
          rintro e w6 ⟨v6, rfl, ho6, hb6, _⟩
          have HB6 := Lib.hid (HB5.out.trans (hb6.mono hz5))
          have hz6 : w.heap.size ≤ w6.heap.size := HB6.out.size
          obtain ⟨a6, c6, rfl, _, _, hr6⟩ := own_reads (l := b) ho6 (by omega)
          have R6 := Lib.hid hr6
          clear ho6 hb6 hr6
          go_wp2_with fail
          go_fit (Bytes_same _ _ c6 capb b _ R6.out (HRB.out.below HB6.out))
          rintro e w7 ⟨rfl, rfl⟩
          go_wp2_with fail
          go_fit (lives2_any _)
          rintro e w8 ⟨rfl, hb8⟩
          have B8 := Lib.hid (HB6.out.trans (hb8.mono hz6))
          clear hb8
          go_wp2_with fail
          go_ret
          exact ⟨rfl, B8.out⟩
        · have u1 : ((p.1 : Int) != 0) = true := by rw [bne_iff_ne]; omega
          clear hg
          go_wp2_with fail
          go_fit (lives2_any _)
          rintro e w8 ⟨rfl, hb8⟩
          have B8 := Lib.hid (HB5.out.trans (hb8.mono hz5))
          clear hb8
          go_wp2_with fail
          go_ret
          exact ⟨rfl, B8.out⟩

theorem walk (m : Nat) (v : Option Addr) (cap : Nat) (l : List Fd) (hlen : l.length ≤ 9223372036854775807) (hlim : (encR m l).length + 10 ≤ 1099511627776) (vb : Option Addr) (capb : Nat) (b : List UInt8) (hlb : b.length ≤ capb) (hcb : capb ≤ 9223372036854775807) (cut : Int) (wc : (Lit.int .u16 cut).wf = true) (w : World) (hr : ReadsF m w v l) (hrb : ReadsBytes w vb b) :
    Calls Try.prog 8 #[.slice v l.length cap, .slice vb b.length capb, .int .u16 cut] w fun e w' => e = .returned (.bool true) ∧ Below w.heap.size w w' := by
  have h : 0 ≤ cut ∧ cut ≤ 65535 := by simpa [Lit.wf, IntKind.signed, IntKind.min, IntKind.max, IntKind.bits] using wc
  obtain ⟨c, rfl⟩ : ∃ c : Nat, cut = c := ⟨cut.toNat, by omega⟩
  exact walkN m v cap l hlen hlim vb capb b hlb hcb c (by omega) w hr hrb

set_option maxRecDepth 100000 in
theorem lifted (os : Os) (started : os.Started) (H : Type) (enc : TypeId × Value → H) (F : Stop.Interp) :
    ReturnsInHanded {} Try.checked os 8 .any ((Rows.OpenSpec.upto Rows.octetsBackSpec).pre6 enc Try.prog Try.f8 Rows.octetsBackUptoRow.domain false) (((Rows.OpenSpec.upto Rows.octetsBackSpec).at F).post enc Try.prog Try.f8 false true false false) := by
  refine returnsInHanded_of_cond (C := Try.checked) (s := Rows.OpenSpec.upto Rows.octetsBackSpec) (k := Rows.uptoSmall) rfl own started (by kernel_rfl) Try.func8
    (OpenSpec.witness (enc := enc) (C := Try.checked) (s := Rows.OpenSpec.upto Rows.octetsBackSpec) (k := Rows.uptoSmall) rfl false ⟨#[], #[.slice none 0 0, .slice none 0 0, .int .u16 0], []⟩ 8 (by kernel_rfl) (by kernel_rfl) (by kernel_rfl)
      (x := ([.nil, .nil, .lit (.int .u16 0)], [], [])) (by kernel_rfl) rfl (by kernel_rfl)) ?_
  intro W base args ds gs before hval0 hW hcnd hk _
  have hval : ∀ (j : Nat) t v, Try.f8.params[j]? = some t → args[j]? = some v → Value.okWide Try.prog W .any base t v := hval0
  have hW' := hW
  obtain ⟨p, q, hA0, hV, rfl, hfz, hnd⟩ := hW
  have hA : DataW.TrodAll enc Try.prog W 0 (fun _ => true) true Try.f8.params.toList args.toList ds p := hA0
  rw [Try.params8] at hA hval
  obtain ⟨v0, vs0, d0, ds0, p0, q0, hargs, rfl, rfl, h0, r0⟩ := trodAll_cons hA
  obtain ⟨v1, vs1, d1, ds1, p1, q1, rfl, rfl, rfl, h1, r1⟩ := trodAll_cons r0
  obtain ⟨v2, vs2, d2, ds2, p2, q2, rfl, rfl, rfl, h2, r2⟩ := trodAll_cons r1
  obtain ⟨rfl, rfl, rfl⟩ := trodAll_nil r2
  obtain rfl : args = #[v0, v1, v2] := by cases args; simp_all
  obtain ⟨rfl, rfl⟩ := trodVars_none hV
  have hbulk := of_decide_eq_true hk
  simp only [List.append_nil, Rows.uptoBulkAll] at hbulk
  obtain ⟨a0, len0, cap0, rfl⟩ := okWide_slice Try.underlying45 (hval 0 45 v0 rfl rfl)
  have k0 := h0
  have lt0 : ∀ x ∈ p0, x.block < W.heap.size := by obtain ⟨m, hm⟩ := k0; exact DataW.trod_lt m _ _ _ hm
  obtain ⟨m0, L0, rfl, hlen0, hr0, hb0⟩ : ∃ (m : Nat) (L : List Fd), len0 = L.length ∧ L.length ≤ 9223372036854775807 ∧ ReadsF m W a0 L ∧ (L.flatMap (encF m)).length ≤ 22 * Rows.uptoBulk d0 := by
    obtain ⟨fuel, hf⟩ := h0
    obtain ⟨L, e1, e2, e3, e4⟩ := open_fields fuel a0 len0 cap0 _ (by simpa [Value.cells] using hf)
    exact ⟨fuel, L, e1, by unfold maxLen at e2; omega, e3 fuel (Nat.le_refl _), e4 fuel⟩
  obtain ⟨a1, len1, cap1, rfl⟩ := okWide_slice Try.underlying23 (hval 1 23 v1 rfl rfl)
  have k1 := h1
  have lt1 : ∀ x ∈ p1, x.block < W.heap.size := by obtain ⟨m, hm⟩ := k1; exact DataW.trod_lt m _ _ _ hm
  obtain ⟨L1, rfl, hL1, hlen1, hr1⟩ : ∃ L : List UInt8, len1 = L.length ∧ L.length ≤ cap1 ∧ cap1 ≤ 9223372036854775807 ∧ ReadsBytes W a1 L := by
    obtain ⟨fuel, hf⟩ := h1
    rcases open_ints Try.underlying23 Try.underlying5 (by kernel_rfl) hf with ⟨hcs, _⟩ | ⟨x, l, c, zs, hcs, _, hl, hm, hz, _, hcell, hwz⟩
    · simp [Value.cells] at hcs
      obtain ⟨rfl, rfl, rfl⟩ := hcs
      exact ⟨[], rfl, by simp, by simp, fun k hk => by simp at hk⟩
    · simp [Value.cells] at hcs
      obtain ⟨rfl, rfl, rfl⟩ := hcs
      exact reads_of8 hl hm (by simpa using hz) hcell hwz
  obtain ⟨a2, rfl, rfl, rfl, w2⟩ := open_int Try.underlying58 (hval 2 58 v2 rfl rfl) h2
  clear hA0 hval0
  refine (walk m0 a0 cap0 L0 hlen0 (encR_len2 m0 L0 (by omega) hlen0) a1 cap1 L1 hL1 hlen1 a2 w2 W hr0 hr1).mono fun e W' ⟨he, bel⟩ => ?_
  subst he
  exact ⟨_, rfl, _, _, _, [], _, [], hW', trodAll_mk1 (shut_bool Try.underlying4 _), (trodAll_cons_mk (Below.trod laidOut (by kernel_rfl) (of_decide_eq_true (by kernel_rfl)) k0 bel lt0) (trodAll_cons_mk (Below.trod laidOut (by kernel_rfl) (of_decide_eq_true (by kernel_rfl)) k1 bel lt1) (trodAll_cons_mk (shut_int Try.underlying58 w2) trodAll_mk0))), rfl, bel.frame _, fun h => by cases h⟩

/-- THE STATEMENT. -/
theorem proved : Rows.OctetsBackUptoSaid :=
  OpenClaim.holds_of_cond 8 Try.f8 rfl rfl rfl rfl rfl rfl rfl ⟨rfl, rfl, rfl, rfl, rfl⟩ rfl rfl rfl rfl rfl (by kernel_rfl) Try.func8 (by kernel_rfl)
    (of_decide_eq_true (by kernel_rfl)) (by unfold Func.isWrapper; first | (rw [if_pos (by decide +kernel)]; kernel_rfl) | (rw [if_neg (by decide +kernel)]; exact ⟨rfl, rfl⟩))
    (fun os started H enc _ F => lifted os started H enc F)
#print axioms proved
end Go.Proofs.Ytfnjemocekgncaa.octetsBack
