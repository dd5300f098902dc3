/- A change of bits of at most four consecutive bytes changes the checksum. -/
import Derived.Test.YtoehpoodfbgdiaaDoorTie
import Derived.Test.YtoehpoodfbgdiaaDoorCards
import Derived.Test.YtoehpoodfbgdiaaDoorDigTab
import Derived.Test.YtoehpoodfbgdiaaDoorOpenA
import Derived.ProofKit
import Derived.OpenShut
import Derived.LaidMore
import Derived.Stop.Joined
import Derived.SevenTiedAt
namespace Go.Proofs.YtoehpoodfbgdiaaDoor.digestBursts
open Go.ChangeShapes Go.WideShapes Go.ChangeAt Go.RowKit
set_option linter.unusedVariables false

theorem own : ownKnob Tryd.prog.godebug = none := by kernel_rfl
theorem laidOut : laidOutB Tryd.prog = true := by kernel_rfl

/-- Bytes of which four were changed, the first k of them xs yet. -/
def px (pre xs ys post : List UInt8) (k : Nat) : List UInt8 := pre ++ (ys.take k ++ (xs.drop k ++ post))
theorem px_len {pre xs ys post : List UInt8} {k : Nat} (ha : xs.length = 4) (hc : ys.length = 4) (hk : k ≤ 4) : (px pre xs ys post k).length = pre.length + 4 + post.length := by
  unfold px
  simp only [List.length_append, List.length_take, List.length_drop]
  omega
theorem px_at {pre xs ys post : List UInt8} {k : Nat} (ha : xs.length = 4) (hc : ys.length = 4) (hk : k < 4) : (px pre xs ys post k)[pre.length + k]? = some (xs[k]'(by omega)) := by
  unfold px
  rw [List.getElem?_append_right (by omega), List.getElem?_append_right (by rw [List.length_take]; omega), List.drop_eq_getElem_cons (by omega : k < xs.length)]
  rw [show pre.length + k - pre.length - (ys.take k).length = 0 by rw [List.length_take]; omega]
  rfl
theorem px_set {pre xs ys post : List UInt8} {k : Nat} (ha : xs.length = 4) (hc : ys.length = 4) (hk : k < 4) : (px pre xs ys post k).set (pre.length + k) (ys[k]'(by omega)) = px pre xs ys post (k + 1) := by
  unfold px
  rw [List.set_append_right _ _ (by omega), List.set_append_right _ _ (by rw [List.length_take]; omega), List.drop_eq_getElem_cons (by omega : k < xs.length)]
  rw [show pre.length + k - pre.length - (ys.take k).length = 0 by rw [List.length_take]; omega]
  rw [List.take_succ_eq_append_getElem (by omega : k < ys.length), List.append_assoc]
  rfl
theorem bytes_set (l : List UInt8) (i : Nat) (b : UInt8) : (Lib.byteCells l).set i (.int .u8 (b.toNat : Nat)) = Lib.byteCells (l.set i b) := by
  unfold Lib.byteCells
  rw [List.map_set]
theorem xor8 (x y : UInt8) : bits .xor .u8 (x.toNat : Int) (y.toNat : Int) = ((x ^^^ y).toNat : Int) := by
  have hx := x.toNat_lt
  have hy := y.toNat_lt
  have h0 : x.toNat ^^^ y.toNat < 2 ^ 8 := Nat.xor_lt_two_pow (by omega) (by omega)
  have h1 : (BitVec.ofInt 8 (x.toNat : Int)).toNat = x.toNat := by
    rw [BitVec.ofInt_natCast, BitVec.toNat_ofNat]; exact Nat.mod_eq_of_lt (by omega)
  have h2 : (BitVec.ofInt 8 (y.toNat : Int)).toNat = y.toNat := by
    rw [BitVec.ofInt_natCast, BitVec.toNat_ofNat]; exact Nat.mod_eq_of_lt (by omega)
  show IntKind.u8.wrap ((BitVec.ofInt 8 (x.toNat : Int) ^^^ BitVec.ofInt 8 (y.toNat : Int)).toNat : Int) = _
  rw [BitVec.toNat_xor, h1, h2, UInt8.toNat_xor]
  simp [IntKind.wrap, IntKind.bits, IntKind.signed]
  omega
theorem eq4 (a b c d : Int) (w : World) : (Op.equalIn 10000 43 (.agg #[.int .u8 a, .int .u8 b, .int .u8 c, .int .u8 d]) (.agg #[.int .u8 0, .int .u8 0, .int .u8 0, .int .u8 0])).run Tryd.prog w = .ok (a == 0 && b == 0 && c == 0 && d == 0) w := by
  have u3 := Tryd.underlying5
  have a3 := Tryd.isAgg5
  have z3 := Tryd.sizeOf5
  rw [show (10000 : Nat) = 9999 + 1 from rfl, Op.equalIn]
  simp only [Sem.run_bind, run_underlying Tryd.underlying43, Result.andThen_ok]
  simp only [Std.Legacy.Range.forIn_eq_forIn_range', Std.Legacy.Range.size, Nat.sub_zero, Nat.add_sub_cancel, Nat.div_one, List.range'_succ, List.range'_zero, List.forIn_cons, List.forIn_nil]
  go_simp
  by_cases h1 : a = 0 <;> by_cases h2 : b = 0 <;> by_cases h3 : c = 0 <;> by_cases h4 : d = 0 <;> simp [h1, h2, h3, h4]
set_option maxHeartbeats 4000000 in
set_option maxRecDepth 100000 in
theorem walk_main (b off cap : Nat) (pre xs post : List UInt8) (cb : List UInt8) (ys : List UInt8) (hx : xs.length = 4) (hcb : cb.length = 4) (hy : ys.length = 4)
    (hxy : ∀ k (h : k < 4), ys[k]'(by omega) = xs[k]'(by omega) ^^^ cb[k]'(by omega)) (hn : pre.length + 4 + post.length ≤ 3000) (hcap : pre.length + 4 + post.length ≤ cap) (a0 a1 a2 a3 : Int)
    (ha : ∀ k (h : k < 4), ([a0, a1, a2, a3][k]'h) = ((cb[k]'(by omega)).toNat : Int)) (hz : (a0 == 0 && a1 == 0 && a2 == 0 && a3 == 0) = false) (hne : checkN (px pre xs ys post 4) ≠ checkN (px pre xs ys post 0))
    (w : World) (hT : Tabs w) (hr : ReadsBytes w (some ⟨b, off, none⟩) (px pre xs ys post 0)) :
    Calls Tryd.prog 9 #[.slice (some ⟨b, off, none⟩) (px pre xs ys post 0).length cap, .int .i64 (pre.length : Nat), .agg #[.int .u8 a0, .int .u8 a1, .int .u8 a2, .int .u8 a3]] w fun e w' => e = .returned (.bool true) ∧ Below w.heap.size w w' := by
  obtain ⟨i0, hi, hz0, hz1, hz2⟩ := info_parts info8
  have hL := px_len (pre := pre) (post := post) (k := 0) hx hy (by omega)
  obtain ⟨n, hnn⟩ : ∃ n, n = (px pre xs ys post 0).length := ⟨_, rfl⟩
  obtain ⟨p, hp⟩ : ∃ p, p = pre.length := ⟨_, rfl⟩
  rw [← hnn, ← hp]
  have NP := Lib.hid (show n = (px pre xs ys post 0).length ∧ p = pre.length ∧ n = p + 4 + post.length ∧ n ≤ 3000 ∧ n ≤ cap ∧ p + 4 ≤ n from ⟨hnn, hp, by omega, by omega, by omega, by omega⟩)
  have q1 : decide ((n : Int) < 4) = false := by simp; omega
  have q2 : decide ((3000 : Int) < (n : Int)) = false := by simp; omega
  have q3 : decide ((p : Int) < 0) = false := by simp
  have q4 : decide ((n : Int) - 4 < (p : Int)) = false := by simp; omega
  have q0 : (p : Int) + 4 ≤ (n : Int) ∧ (n : Int) ≤ 3000 := by omega
  have HXY := Lib.hid hxy
  have HXL := Lib.hid (And.intro hx (And.intro hcb hy))
  have HA := Lib.hid ha
  have HNE := Lib.hid hne
  clear hnn hp hn hcap hL hxy ha hne
  have E4 := fun w => eq4 a0 a1 a2 a3 w
  rw [hz] at E4
  have hmd : ((w.alloc (Obj.cells #[.int .u8 a0, .int .u8 a1, .int .u8 a2, .int .u8 a3] 43)).alloc (Obj.cells #[] 5)).ownsRow (w.heap.size + 1) 5 1 (.slice (some ⟨w.heap.size + 1, 0, none⟩) 0 0) 0 [] := by
    have h := World.ownsRow_made (base := w.heap.size + 1) (e := 5) (size := 1) (w.alloc (Obj.cells #[.int .u8 a0, .int .u8 a1, .int .u8 a2, .int .u8 a3] 43)) #[] 0 (by simp) (by decide) rfl
    rwa [show (w.alloc (Obj.cells #[.int .u8 a0, .int .u8 a1, .int .u8 a2, .int .u8 a3] 43)).heap.size = w.heap.size + 1 by simp] at h
  have BA := Lib.hid (((Below.refl w.heap.size w).alloc (Nat.le_refl _) (Obj.cells #[.int .u8 a0, .int .u8 a1, .int .u8 a2, .int .u8 a3] 43)).alloc (by simp) (Obj.cells #[] 5))
  have RA := Lib.hid (hr.below BA.out)
  have CA := Lib.hid (show ∀ k (h : k < 4), ((w.alloc (Obj.cells #[.int .u8 a0, .int .u8 a1, .int .u8 a2, .int .u8 a3] 43)).alloc (Obj.cells #[] 5)).cell? ⟨w.heap.size, k, none⟩ = some (.int .u8 ([a0, a1, a2, a3][k]'h)) by
    intro k h
    match k, h with
    | 0, _ => simp [go_sem]
    | 1, _ => simp [go_sem]
    | 2, _ => simp [go_sem]
    | 3, _ => simp [go_sem])
  have HMD := Lib.hid hmd
  have HR := Lib.hid hr
  have HT := Lib.hid hT
  clear hr hmd hT
  clear hz
  go_enter Tryd.func9, Tryd.ntmps9
  go_wp2_with (at_builtin; go_loud (refine wpList_append_own _ rfl _ _ 27 rfl (w.heap.size + 1) 5 i0 (.int .u8 0) 1 1 Tryd.underlying27 hi hz0 hz1 hz2 rfl (by decide) _ 0 [] rfl HMD.out ⟨b, off, none⟩ n cap (Lib.byteCells (px pre xs ys post 0)) rfl ?a0z ?a1z ?a2z ?a3z ?a4z ?a5z ?_))
  case a0z => simp [Lib.byteCells, NP.out.1]
  case a1z => exact reads_cells RA.out
  case a2z =>
    intro u hu
    obtain ⟨x, _, rfl⟩ := List.mem_map.1 hu
    rfl
  case a3z => unfold maxLen; omega
  case a4z => omega
  case a5z => simp
  intro v6 w6 ho6 hg6 _
  have h6 : ∀ k, (Value.slice (some ⟨w.heap.size + 1, 0, none⟩) 0 0).ownBlock = some k → w.heap.size + 1 ≤ k := fun k hk => (HMD.out.lt k hk).1
  have B6 := Lib.hid (BA.out.grown hg6 (by simp; omega) (fun k hk => by have := h6 k hk; omega))
  have C6 := Lib.hid (show ∀ k (h : k < 4), w6.cell? ⟨w.heap.size, k, none⟩ = some (.int .u8 ([a0, a1, a2, a3][k]'h)) by
    intro k h
    have hb := (Below.refl (w.heap.size + 1) ((w.alloc (Obj.cells #[.int .u8 a0, .int .u8 a1, .int .u8 a2, .int .u8 a3] 43)).alloc (Obj.cells #[] 5))).grown hg6 (by simp) h6
    exact (hb.cell (p := ⟨w.heap.size, k, none⟩) (by simp)).trans (CA.out k h))
  obtain ⟨g, c6, rfl⟩ := Go.Joins.ownsRow_form ho6 (by omega)
  have hg0 : w.heap.size + 1 ≤ g := (ho6.lt g rfl).1
  have O6 := Lib.hid ho6
  clear ho6 hg6 h6
  go_wp2_with fail
  go_loopw [8] (fun s8 wr => ∃ k : Nat, k ≤ 4 ∧ s8 = .int .i64 k ∧ wr.ownsRow (w.heap.size + 1) 5 1 (.slice (some ⟨g, 0, none⟩) n c6) n (Lib.byteCells (px pre xs ys post k)) ∧ Below w.heap.size w wr ∧ (∀ i (h : i < 4), wr.cell? ⟨w.heap.size, i, none⟩ = some (.int .u8 ([a0, a1, a2, a3][i]'h)))) (fun s8 _ => 4 - (RowKit.intOf s8).toNat)
  case atStart => exact ⟨0, by omega, rfl, O6.out, B6.out, C6.out⟩
  case round =>
    obtain ⟨k, hk, rfl, hown, hbel, hcell⟩ := hrel
    have HO := Lib.hid hown
    have HB := Lib.hid hbel
    have HC := Lib.hid hcell
    clear hown hbel hcell
    by_cases hlt : k < 4
    · have hq : p + k < n := by omega
      have hl : wr.cell? ⟨g, p + k, none⟩ = some (.int .u8 ((xs[k]'(by omega)).toNat : Int)) := by
        rw [HO.out.cellAt (p + k) (by omega), Lib.byteCells, List.getElem?_map, NP.out.2.1, px_at hx hy hlt]
        rfl
      have hc := HC.out k hlt
      rw [HA.out k hlt] at hc
      have hf := HO.out.frozenAt (p + k)
      have hxo := xor8 (xs[k]'(by omega)) (cb[k]'(by omega))
      rw [← HXY.out k hlt] at hxo
      have hst := (HO.out.stored (p + k) (.int .u8 ((ys[k]'(by omega)).toNat : Int))).1
      rw [bytes_set, NP.out.2.1, px_set hx hy hlt] at hst
      rw [← NP.out.2.1] at hst
      have HS := Lib.hid hst
      have HB2 := Lib.hid (HB.out.setCell (p := ⟨g, p + k, none⟩) (by show w.heap.size ≤ g; omega) (.int .u8 ((ys[k]'(by omega)).toNat : Int)))
      have HC2 := Lib.hid (show ∀ i (h : i < 4), (wr.setCell ⟨g, p + k, none⟩ (.int .u8 ((ys[k]'(by omega)).toNat : Int))).cell? ⟨w.heap.size, i, none⟩ = some (.int .u8 ([a0, a1, a2, a3][i]'h)) from
        fun i h => (World.cell?_setCell_far _ _ _ _ (by show g ≠ w.heap.size; omega)).trans (HC.out i h))
      clear hst
      go_wp2_with fail
      go_region
      go_wp2_with fail
      exact ⟨⟨k + 1, by omega, by go_num, HS.out.drew, HB2.out.drew, fun i h => HC2.out i h⟩, by simp [RowKit.intOf]; omega⟩
    · obtain rfl : k = 4 := by omega
      have hlen : n = (px pre xs ys post 4).length := by rw [px_len hx hy (by omega)]; have := NP.out.2.2.1; have := NP.out.2.1; omega
      have hlen0 := NP.out.1
      obtain ⟨a7, c7, e7, _, _, r7⟩ := own_reads HO.out hlen
      simp only [Value.slice.injEq] at e7
      obtain ⟨rfl, e8, rfl⟩ := e7
      clear e8
      have R7 := Lib.hid r7
      have K1 := digCheck_any (some ⟨g, 0, none⟩) c6 (px pre xs ys post 4) (by omega) wr r7
      have K2 := fun w (hr : ReadsBytes w (some ⟨b, off, none⟩) (px pre xs ys post 0)) => digCheck_any (some ⟨b, off, none⟩) cap (px pre xs ys post 0) (by omega) w hr
      rw [← hlen] at K1
      rw [← hlen0] at K2
      have hnq : (((checkN (px pre xs ys post 4) : Nat) : Int) != ((checkN (px pre xs ys post 0) : Nat) : Int)) = true := bne_iff_ne.2 (fun h => HNE.out (Int.ofNat.inj h))
      have H1 := Lib.hid K1
      have H2 := Lib.hid K2
      generalize ((checkN (px pre xs ys post 4) : Nat) : Int) = m1 at *
      generalize ((checkN (px pre xs ys post 0) : Nat) : Int) = m2 at *
      clear K1 K2 r7 hlen hlen0
      go_wp2_with fail
      go_fit H1.out
      rintro e w7 ⟨rfl, hb⟩
      have B7 := Lib.hid (HB.out.trans (hb.mono HB.out.size))
      clear hb
      go_wp2_with fail
      go_fit (H2.out _ (HR.out.below B7.out))
      rintro e w8 ⟨rfl, hb⟩
      have B8 := Lib.hid (B7.out.trans (hb.mono B7.out.size))
      clear hb
      go_wp2_with fail
      go_fit (lives3_any _ (HT.out.below B8.out))
      rintro e w9 ⟨rfl, hb⟩
      have B9 := Lib.hid (B8.out.trans (hb.mono B8.out.size))
      clear hb
      go_wp2_with fail
      go_ret
      exact ⟨rfl, B9.out⟩
theorem u8_of {n : Int} (h : (Lit.int .u8 n).wf = true) : ∃ c : UInt8, n = (c.toNat : Int) := by
  obtain ⟨n0, n1⟩ : 0 ≤ n ∧ n ≤ 255 := by
    simpa [Lit.wf, IntKind.signed, IntKind.min, IntKind.max, IntKind.bits] using h
  refine ⟨n.toNat.toUInt8, ?_⟩
  rw [show n.toNat.toUInt8.toNat = n.toNat from by simp; omega]
  omega
theorem four_at (l : List UInt8) (p : Nat) (h : p + 4 ≤ l.length) : ∃ x0 x1 x2 x3, l = l.take p ++ ([x0, x1, x2, x3] ++ l.drop (p + 4)) := by
  refine ⟨l[p], l[p + 1], l[p + 2], l[p + 3], ?_⟩
  conv => lhs; rw [← List.take_append_drop p l]
  rw [List.drop_eq_getElem_cons (by omega), List.drop_eq_getElem_cons (by omega), List.drop_eq_getElem_cons (by omega), List.drop_eq_getElem_cons (by omega)]
  rfl
theorem xor_same {x y : UInt8} (h : x ^^^ y = x) : y = 0 := by
  have h2 : x ^^^ (x ^^^ y) = x ^^^ x := by rw [h]
  rwa [← UInt8.xor_assoc, UInt8.xor_self, UInt8.zero_xor] at h2
set_option maxHeartbeats 4000000 in
set_option maxRecDepth 100000 in
theorem walk (v : Option Addr) (cap : Nat) (l : List UInt8) (hlen : l.length ≤ cap) (hcap : cap ≤ 9223372036854775807) (t : Int) (a b c d : Int) (w0 : (Lit.int .i64 t).wf = true) (w1 : (Lit.int .u8 a).wf = true ∧ (Lit.int .u8 b).wf = true ∧ (Lit.int .u8 c).wf = true ∧ (Lit.int .u8 d).wf = true) (w : World) (hT : Tabs w) (hr : ReadsBytes w v l) :
    Calls Tryd.prog 9 #[.slice v l.length cap, .int .i64 t, .agg #[.int .u8 a, .int .u8 b, .int .u8 c, .int .u8 d]] w fun e w' => e = .returned (.bool true) ∧ Below w.heap.size w w' := by
  obtain ⟨t0, t1⟩ : -9223372036854775808 ≤ t ∧ t ≤ 9223372036854775807 := by
    simp [Lit.wf] at w0
    have e1 : IntKind.min .i64 = -9223372036854775808 := by decide
    have e2 : IntKind.max .i64 = 9223372036854775807 := by decide
    omega
  have E4 := fun w => eq4 a b c d w
  have HT := Lib.hid hT
  clear hT
  by_cases hm : (4 ≤ l.length ∧ l.length ≤ 3000 ∧ 0 ≤ t ∧ t ≤ (l.length : Int) - 4) ∧ (a == 0 && b == 0 && c == 0 && d == 0) = false
  · obtain ⟨⟨h1, h2, h3, h4⟩, hz⟩ := hm
    obtain ⟨p, rfl⟩ := Int.eq_ofNat_of_zero_le h3
    obtain ⟨x0, x1, x2, x3, hl⟩ := four_at l p (by omega)
    obtain ⟨b0, rfl⟩ := u8_of w1.1
    obtain ⟨b1, rfl⟩ := u8_of w1.2.1
    obtain ⟨b2, rfl⟩ := u8_of w1.2.2.1
    obtain ⟨b3, rfl⟩ := u8_of w1.2.2.2
    obtain ⟨q, o, rfl, _, _⟩ := hr 0 (by omega)
    have hpx : px (l.take p) [x0, x1, x2, x3] [x0 ^^^ b0, x1 ^^^ b1, x2 ^^^ b2, x3 ^^^ b3] (l.drop (p + 4)) 0 = l := hl.symm
    have hpl : (l.take p).length = p := by rw [List.length_take]; omega
    have hdl : (l.drop (p + 4)).length = l.length - (p + 4) := List.length_drop
    have hne : checkN (px (l.take p) [x0, x1, x2, x3] [x0 ^^^ b0, x1 ^^^ b1, x2 ^^^ b2, x3 ^^^ b3] (l.drop (p + 4)) 4) ≠ checkN (px (l.take p) [x0, x1, x2, x3] [x0 ^^^ b0, x1 ^^^ b1, x2 ^^^ b2, x3 ^^^ b3] (l.drop (p + 4)) 0) := by
      show checkN (l.take p ++ ([x0 ^^^ b0, x1 ^^^ b1, x2 ^^^ b2, x3 ^^^ b3] ++ l.drop (p + 4))) ≠ checkN (l.take p ++ ([x0, x1, x2, x3] ++ l.drop (p + 4)))
      rw [← List.append_assoc, ← List.append_assoc]
      refine check_burst _ _ _ _ _ _ _ _ _ _ fun h => ?_
      rw [xor_same h.1, xor_same h.2.1, xor_same h.2.2.1, xor_same h.2.2.2] at hz
      exact absurd hz (by decide)
    have h := walk_main q o cap (l.take p) [x0, x1, x2, x3] (l.drop (p + 4)) [b0, b1, b2, b3] [x0 ^^^ b0, x1 ^^^ b1, x2 ^^^ b2, x3 ^^^ b3] rfl rfl rfl
      (by intro k h; match k, h with
        | 0, _ => rfl
        | 1, _ => rfl
        | 2, _ => rfl
        | 3, _ => rfl) (by omega) (by omega) b0.toNat b1.toNat b2.toNat b3.toNat
      (by intro k h; match k, h with
        | 0, _ => rfl
        | 1, _ => rfl
        | 2, _ => rfl
        | 3, _ => rfl) hz hne w HT.out (by rw [hpx]; exact hr)
    rwa [hpx, hpl] at h
  · have hcase : decide ((l.length : Int) < 4) = true ∨ (decide ((l.length : Int) < 4) = false ∧ decide ((3000 : Int) < (l.length : Int)) = true) ∨ (decide ((l.length : Int) < 4) = false ∧ decide ((3000 : Int) < (l.length : Int)) = false ∧ decide (t < 0) = true) ∨
        (decide ((l.length : Int) < 4) = false ∧ decide ((3000 : Int) < (l.length : Int)) = false ∧ decide (t < 0) = false ∧ decide ((l.length : Int) - 4 < t) = true) ∨
        (decide ((l.length : Int) < 4) = false ∧ decide ((3000 : Int) < (l.length : Int)) = false ∧ decide (t < 0) = false ∧ decide ((l.length : Int) - 4 < t) = false ∧ (a == 0 && b == 0 && c == 0 && d == 0) = true) := by
      simp only [decide_eq_true_eq, decide_eq_false_iff_not]
      cases hz : (a == 0 && b == 0 && c == 0 && d == 0)
      · have : ¬ (4 ≤ l.length ∧ l.length ≤ 3000 ∧ 0 ≤ t ∧ t ≤ (l.length : Int) - 4) := fun h => hm ⟨h, hz⟩
        omega
      · simp only [and_true]
        omega
    clear hm hcap hlen hr w0 w1
    rcases hcase with f1 | ⟨f1, f2⟩ | ⟨f1, f2, f3⟩ | ⟨f1, f2, f3, f4⟩ | ⟨f1, f2, f3, f4, f5⟩
    all_goals try rw [f5] at E4
    all_goals try have q9 : (4 : Int) ≤ (l.length : Int) ∧ (l.length : Int) ≤ 3000 := by (simp only [decide_eq_false_iff_not] at f1 f2; omega)
    all_goals
      go_enter Tryd.func9, Tryd.ntmps9
      go_wp2_with fail
      go_fit (lives3_any _ (HT.out.below ((Below.refl w.heap.size w).alloc (Nat.le_refl _) _)))
      rintro e w3 ⟨rfl, hb⟩
      have B3 := Lib.hid (((Below.refl w.heap.size w).alloc (Nat.le_refl _) (Obj.cells #[.int .u8 a, .int .u8 b, .int .u8 c, .int .u8 d] 43)).trans (hb.mono (by simp)))
      clear hb
      go_wp2_with fail
      go_ret
      exact ⟨rfl, B3.out⟩

set_option maxRecDepth 100000 in
theorem lifted (os : Os) (started : os.Started) (H : Type) (enc : TypeId × Value → H) :
    ReturnsInHanded {} Tryd.checked os 9 .any (fun w args => (Rows.digestBurstsSpec.pre enc Tryd.prog Tryd.f9 Rows.digestBurstsRow.domain false w args ∧ laidMetH Tryd.prog laid3 w) ∧ sizedMet enc Tryd.prog Tryd.f9 (OpenSpec.ofChange Rows.digestBurstsSpec) false w args) (Rows.digestBurstsSpec.post enc Tryd.prog Tryd.f9 false true false false) := by
  refine returnsInHanded_of_change_and (C := Tryd.checked) (X := fun w _ => laidMetH Tryd.prog laid3 w) (fun _ _ _ hh h => h.of_heap hh) own started (by kernel_rfl) Tryd.func9
    (ChangeSpec.witness_shaped (enc := enc) (C := Tryd.checked) (os := os) (X := fun w _ => laidMetH Tryd.prog laid3 w) false (World.doorLaid Tryd.prog 400 os) #[.slice none 0 0, .int .i64 0, .agg #[.int .u8 0, .int .u8 0, .int .u8 0, .int .u8 0]] 8 rfl (World.shaped_of_RefB (by kernel_rfl) (by kernel_rfl)) (by kernel_rfl) (by kernel_rfl) (by kernel_rfl) (door_met os _)) ?_
  intro W base args ds gs before hval0 hW hcnd hsz hL _
  have hval : ∀ (j : Nat) t v, Tryd.f9.params[j]? = some t → args[j]? = some v → Value.okWide Tryd.prog W .any base t v := hval0
  have hW' := hW
  obtain ⟨p, q, hA0, hV, rfl, hfz, hnd⟩ := hW
  have hA : DataW.TrodAll enc Tryd.prog W 0 (fun _ => true) true Tryd.f9.params.toList args.toList ds p := hA0
  rw [Tryd.params9] at hA hval hsz
  obtain ⟨v0, vs0, d0, ds0, p0, q0, hargs, rfl, rfl, h0, r0⟩ := trodAll_cons hA
  obtain ⟨v1, vs1, d1, ds1, p1, q1, rfl, rfl, rfl, h1, r1⟩ := trodAll_cons r0
  obtain ⟨v2, vs2, d2, ds2, p2, q2, rfl, rfl, rfl, h2, r2⟩ := trodAll_cons r1
  obtain ⟨rfl, rfl, rfl⟩ := trodAll_nil r2
  obtain rfl : args = #[v0, v1, v2] := by cases args; simp_all
  obtain ⟨rfl, rfl⟩ := trodVars_none hV
  obtain ⟨a0, len0, cap0, rfl⟩ := okWide_slice Tryd.underlying27 (hval 0 27 v0 rfl rfl)
  have k0 := h0
  have lt0 : ∀ x ∈ p0, x.block < W.heap.size := by obtain ⟨m, hm⟩ := k0; exact DataW.trod_lt m _ _ _ hm
  obtain ⟨L0, rfl, hL0, hlen0, hr0⟩ : ∃ L : List UInt8, len0 = L.length ∧ L.length ≤ cap0 ∧ cap0 ≤ 9223372036854775807 ∧ ReadsBytes W a0 L := by
    obtain ⟨fuel, hf⟩ := h0
    rcases open_ints Tryd.underlying27 Tryd.underlying5 (by kernel_rfl) hf with ⟨hcs, _⟩ | ⟨x, l, c, zs, hcs, _, hl, hm, hz, _, hcell, hwz⟩
    · simp [Value.cells] at hcs
      obtain ⟨rfl, rfl, rfl⟩ := hcs
      exact ⟨[], rfl, by simp, by simp, fun k hk => by simp at hk⟩
    · simp [Value.cells] at hcs
      obtain ⟨rfl, rfl, rfl⟩ := hcs
      exact reads_of8 hl hm (by simpa using hz) hcell hwz
  obtain ⟨a1, rfl, rfl, rfl, w1⟩ := open_int Tryd.underlying3 (hval 1 3 v1 rfl rfl) h1
  have k2 := h2
  have lt2 : ∀ x ∈ p2, x.block < W.heap.size := by obtain ⟨m, hm⟩ := k2; exact DataW.trod_lt m _ _ _ hm
  obtain ⟨cs2, rfl, hs2⟩ := okWide_arrK Tryd.underlying43 (hval 2 43 v2 rfl rfl)
  obtain ⟨fuel2, hf2⟩ := h2
  obtain ⟨L2, e2, n2, wf2⟩ := arr_intsK Tryd.underlying43 Tryd.underlying5 (by kernel_rfl) (by kernel_rfl) hf2
  obtain rfl : cs2 = (L2.map (Value.int .u8)).toArray := by simpa [Value.cells, ← Array.toList_inj] using e2
  obtain ⟨x2a, x2b, x2c, x2d, rfl⟩ : ∃ x2a x2b x2c x2d, L2 = [x2a, x2b, x2c, x2d] := lenA4 n2
  simp only [List.map_cons, List.map_nil, List.mem_cons, List.not_mem_nil, or_false, forall_eq_or_imp, forall_eq] at wf2 ⊢
  clear hA0 hval0
  refine (walk a0 cap0 L0 hL0 hlen0 a1 x2a x2b x2c x2d w1 wf2 W (tabs_of hL) hr0).mono fun e W' ⟨he, bel⟩ => ?_
  subst he
  exact ⟨_, rfl, _, _, _, [], _, [], hW', trodAll_mk1 (shut_bool Tryd.underlying4 _), (trodAll_cons_mk (Below.trod laidOut (by kernel_rfl) (of_decide_eq_true (by kernel_rfl)) k0 bel lt0) (trodAll_cons_mk (shut_int Tryd.underlying3 w1) (trodAll_cons_mk (Below.trod laidOut (by kernel_rfl) (of_decide_eq_true (by kernel_rfl)) k2 bel lt2) trodAll_mk0))), rfl, bel.frame _, fun h => by cases h⟩

theorem over : Rows.digestBurstsRow.holds Tryd.pinned (OpenSpec.ofChange Rows.digestBurstsSpec) :=
  OpenClaim.holds_of_wide 9 Tryd.f9 rfl rfl rfl rfl rfl rfl rfl ⟨rfl, rfl, rfl, rfl, rfl⟩ rfl rfl rfl rfl rfl (by kernel_rfl) Tryd.func9 (by kernel_rfl)
    (of_decide_eq_true (by kernel_rfl)) (by unfold Func.isWrapper; first | (rw [if_pos (by decide +kernel)]; kernel_rfl) | (rw [if_neg (by decide +kernel)]; exact ⟨rfl, rfl⟩))
    (fun os started H enc _ => lifted os started H enc)

/-- THE STATEMENT. -/
theorem proved : Rows.DigestBurstsCardSaid :=
  Claim7.holds_tied_plain_at .later [] [.data, .data, .data, .sentinel, .sentinel] true Rows.digestBurstsCard.stood.harness true
    over (fun _ h => by cases h) (by kernel_rfl) (fun _ h => by cases h) digestBursts_row_tie rfl ⟨rfl, rfl⟩ (by kernel_rfl) rfl
    (fun f fn hf hfn => by
      obtain rfl : f = 9 := Option.some.inj ((show Tryd.prog.funcNamed "pipeline/pipelinelaw03.DigestBursts" = some 9 by kernel_rfl).symm.trans hf) |>.symm
      obtain rfl : fn = Tryd.f9 := (Option.some.inj (Tryd.func9.symm.trans hfn)).symm
      exact ⟨by kernel_rfl, fun j t ht => by
        rw [Tryd.params9] at ht
        have hm : t ∈ [27, 3, 43] := by simpa using Array.mem_of_getElem? ht
        have hall : ([27, 3, 43].all fun u => !Tryd.prog.wantsStandIn u) = true := by kernel_rfl
        exact (show Tryd.prog.wantsStandIn t = false by simpa using List.all_eq_true.1 hall t hm)⟩)
    (by kernel_rfl)
#print axioms proved
end Go.Proofs.YtoehpoodfbgdiaaDoor.digestBursts
