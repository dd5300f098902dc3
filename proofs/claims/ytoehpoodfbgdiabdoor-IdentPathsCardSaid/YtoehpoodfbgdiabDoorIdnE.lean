/- Contracts of the document's Parent and Within (ident), and the plain functions that they compute. -/
import Derived.Test.YtoehpoodfbgdiabDoorIdnC
namespace Go.Proofs.YtoehpoodfbgdiabDoor
open Go.RowKit Go.Lib

theorem slashP_split : ∀ (l cur : List UInt8), slashP (splitOn cur l) = 47 :: (cur ++ l)
  | [], cur => by simp [splitOn, slashP]
  | c :: r, cur => by
    unfold splitOn
    by_cases h : c.toNat = 47
    · have hc : c = 47 := UInt8.toNat_inj.1 h
      subst hc
      rw [if_pos h]
      have := slashP_split r []
      unfold slashP at this ⊢
      rw [List.flatMap_cons, this]
      simp
    · rw [if_neg h, slashP_split r (cur ++ [c])]
      simp
theorem join_split (l : List UInt8) : joinP (splitOn [] l) = l := by
  unfold joinP
  rw [slashP_split]
  simp
def parentR (l : List UInt8) : List UInt8 × Bool := if (partsR l).2 ≠ 0 ∨ (partsR l).1.length < 2 then ([], false) else (joinP (partsR l).1.dropLast, true)
def withinR (a b : List UInt8) : Bool := decide ((partsR a).2 = 0) && decide ((partsR b).2 = 0) && decide ((partsR a).1.take (partsR b).1.length = (partsR b).1)
theorem partsR_ok {l : List UInt8} (h : (partsR l).2 = 0) : (partsR l).1 = splitOn [] l ∧ (splitOn [] l).all nameB = true ∧ l.length ≤ 512 := by
  unfold partsR at h ⊢
  by_cases h1 : 512 < l.length
  · rw [if_pos h1] at h; simp at h
  · rw [if_neg h1] at h ⊢
    by_cases h2 : (splitOn [] l).all nameB = true
    · rw [if_pos h2]
      exact ⟨rfl, h2, by omega⟩
    · rw [if_neg h2] at h; simp at h
theorem parent_cut {l : List UInt8} (h : (partsR l).2 = 0) (h2 : 2 ≤ (partsR l).1.length) (x : List UInt8) (hx : (partsR l).1[(partsR l).1.length - 1]? = some x) : l = joinP (partsR l).1.dropLast ++ 47 :: x := by
  obtain ⟨h3, _, _⟩ := partsR_ok h
  have hne : (partsR l).1 ≠ [] := by intro e; rw [e] at h2; simp at h2
  have hlast : (partsR l).1.getLast hne = x := by
    rw [List.getLast_eq_getElem]
    rw [List.getElem?_eq_getElem (by omega)] at hx
    injection hx
  have h4 : (partsR l).1.dropLast ++ [x] = (partsR l).1 := by rw [← hlast]; exact List.dropLast_concat_getLast hne
  have h5 : joinP (partsR l).1 = l := by rw [h3]; exact join_split l
  have h6 := joinP_snoc (partsR l).1.dropLast x (by rw [List.length_dropLast]; omega)
  rw [h4, h5] at h6
  exact h6

theorem ret_sb {a b : ByteArray} {c d : Bool} (h : a = b) (h2 : c = d) : Ending.returned (.tuple #[.string a, .bool c]) = .returned (.tuple #[.string b, .bool d]) := by rw [h, h2]
set_option maxHeartbeats 4000000 in
set_option maxRecDepth 100000 in
theorem refParent_any (s : ByteArray) (hs : s.size ≤ 1099511627776) (w : World) :
    Calls Tryd.prog 20 #[.string s] w fun e w' => e = .returned (.tuple #[.string ⟨(parentR s.data.toList).1.toArray⟩, .bool (parentR s.data.toList).2]) ∧ Below w.heap.size w w' := by
  have P := Lib.hid (refParts_any s hs w)
  have hcut := fun a b c => parent_cut (l := s.data.toList) a b c
  obtain ⟨q, hq⟩ : ∃ q, q = parentR s.data.toList := ⟨_, rfl⟩
  rw [← hq]
  unfold parentR at hq
  obtain ⟨p, hp⟩ : ∃ p, p = partsR s.data.toList := ⟨_, rfl⟩
  rw [← hp] at hq P hcut
  have HQ := Lib.hid hq
  have HC := Lib.hid hcut
  clear hq hp hcut
  go_enter Tryd.func20, Tryd.ntmps20
  go_wp2_with fail
  go_fit (P.out)
  rintro e w1 ⟨a, c, rfl, hb, hr, hlc, hc9⟩
  have HB := Lib.hid hb
  have HR := Lib.hid hr
  clear hb hr
  by_cases he : p.2 = 0
  · have u1 : ((p.2 : Int) != 0) = false := by rw [bne_eq_false_iff_eq]; omega
    by_cases h2 : p.1.length < 2
    · have HF := Lib.hid (show q = ([], false) by rw [HQ.out, if_pos (Or.inr h2)])
      clear he
      go_wp2_with fail
      go_ret2
      exact ⟨ret_sb (by rw [HF.out]) (by rw [HF.out]), HB.out⟩
    · have HF := Lib.hid (show q = (joinP p.1.dropLast, true) by rw [HQ.out, if_neg (by omega)])
      obtain ⟨b, off, rfl, hb, hcell⟩ := HR.out (p.1.length - 1) (by omega)
      obtain ⟨x, hx⟩ : ∃ x, x = p.1[p.1.length - 1]'(by omega) := ⟨_, rfl⟩
      rw [← hx] at hcell
      have hl := HC.out he (by omega) x (by rw [List.getElem?_eq_getElem (by omega), hx])
      have hll := congrArg List.length hl
      rw [list_len, List.length_append, List.length_cons] at hll
      have hms := mk_size x
      obtain ⟨sx, hsx⟩ : ∃ s : ByteArray, s = ⟨x.toArray⟩ := ⟨_, rfl⟩
      rw [← hsx] at hcell hms
      have HX := Lib.hid (show s.data.toList.take (s.size - sx.size - 1) = joinP p.1.dropLast by
        rw [hms, show s.size - x.length - 1 = (joinP p.1.dropLast).length by omega]
        conv => lhs; arg 2; rw [hl]
        exact List.take_left)
      have hix : ((p.1.length : Int) - 1).toNat = p.1.length - 1 := by omega
      have hsz : (sx.size : Int) + 1 ≤ (s.size : Int) := by omega
      have hp2 : (2 : Int) ≤ (p.1.length : Int) := by omega
      clear he hx hl hll hms hsx
      go_wp2_with fail
      go_ret2
      exact ⟨ret_sb (by rw [HF.out, extract_mk, HX.out, List.drop_zero]) (by rw [HF.out]), HB.out⟩
  · have u1 : ((p.2 : Int) != 0) = true := by rw [bne_iff_ne]; omega
    have HF := Lib.hid (show q = ([], false) by rw [HQ.out, if_pos (Or.inl he)])
    clear he
    go_wp2_with fail
    go_ret2
    exact ⟨ret_sb (by rw [HF.out]) (by rw [HF.out]), HB.out⟩

set_option maxHeartbeats 4000000 in
set_option maxRecDepth 100000 in
theorem refWithin_any (s t : ByteArray) (hs : s.size ≤ 1099511627776) (ht : t.size ≤ 1099511627776) (w : World) :
    Calls Tryd.prog 22 #[.string s, .string t] w fun e w' => e = .returned (.bool (withinR s.data.toList t.data.toList)) ∧ Below w.heap.size w w' := by
  have PS := Lib.hid (fun w => refParts_any s hs w)
  have PT := Lib.hid (fun w => refParts_any t ht w)
  obtain ⟨q, hq⟩ : ∃ q, q = withinR s.data.toList t.data.toList := ⟨_, rfl⟩
  rw [← hq]
  unfold withinR at hq
  obtain ⟨p, hp⟩ : ∃ p, p = partsR s.data.toList := ⟨_, rfl⟩
  obtain ⟨r, hr⟩ : ∃ r, r = partsR t.data.toList := ⟨_, rfl⟩
  rw [← hp, ← hr] at hq
  rw [← hp] at PS
  rw [← hr] at PT
  have HQ := Lib.hid hq
  clear hq hp hr
  go_enter Tryd.func22, Tryd.ntmps22
  go_wp2_with fail
  go_fit (PS.out _)
  rintro e w1 ⟨a, c, rfl, hb, hra, hlc, hc9⟩
  have HB1 := Lib.hid hb
  have hz1 := hb.size
  have HR1 := Lib.hid hra
  clear hb hra
  go_wp2_with fail
  go_fit (PT.out _)
  rintro e w2 ⟨a2, c2, rfl, hb, hrb, hlc2, hc92⟩
  have HB2 := Lib.hid (HB1.out.trans (hb.mono hz1))
  have HR1' := Lib.hid (HR1.out.below hb)
  have HR2 := Lib.hid hrb
  clear hb hrb
  by_cases he : p.2 = 0
  · have u1 : ((p.2 : Int) != 0) = false := by rw [bne_eq_false_iff_eq]; omega
    by_cases he2 : r.2 = 0
    · have u2 : ((r.2 : Int) != 0) = false := by rw [bne_eq_false_iff_eq]; omega
      have HQ2 := Lib.hid (show q = decide (p.1.take r.1.length = r.1) by rw [HQ.out, he, he2]; simp)
      by_cases hlt : p.1.length < r.1.length
      · have HF := Lib.hid (show q = false by
          rw [HQ2.out, decide_eq_false_iff_not]
          intro e
          have := congrArg List.length e
          rw [List.length_take] at this
          omega)
        clear he he2
        go_wp2_with fail
        go_ret
        exact ⟨by rw [HF.out]; rfl, HB2.out⟩
      · clear he he2
        go_wp2_with fail
        go_loopw [9] (fun s9 wr => ∃ j : Nat, j ≤ r.1.length ∧ s9 = .int .i64 j ∧ p.1.take j = r.1.take j ∧ Below w.heap.size w wr ∧ Below w2.heap.size w2 wr) (fun s9 _ => r.1.length - (RowKit.intOf s9).toNat)
        case atStart => exact ⟨0, by omega, rfl, rfl, HB2.out, Below.refl _ _⟩
        case round =>
          obtain ⟨j, hj, rfl, htk, hbel, hbel2⟩ := hrel
          have HTK := Lib.hid htk
          have HBR := Lib.hid hbel
          have HBR2 := Lib.hid hbel2
          clear htk hbel hbel2
          by_cases hltj : j < r.1.length
          · have hltp : j < p.1.length := by omega
            obtain ⟨b, off, rfl, g2, g3⟩ := HR1'.out.below HBR2.out j hltp
            obtain ⟨b', off', rfl, f2, f3⟩ := HR2.out.below HBR2.out j hltj
            have hta := List.take_succ_eq_append_getElem hltp
            have htb := List.take_succ_eq_append_getElem hltj
            obtain ⟨x, hx⟩ : ∃ x, x = p.1[j] := ⟨_, rfl⟩
            obtain ⟨y, hy⟩ : ∃ y, y = r.1[j] := ⟨_, rfl⟩
            rw [← hx] at g3 hta
            rw [← hy] at f3 htb
            obtain ⟨sx, hsx⟩ : ∃ s : ByteArray, s = ⟨x.toArray⟩ := ⟨_, rfl⟩
            obtain ⟨sy, hsy⟩ : ∃ s : ByteArray, s = ⟨y.toArray⟩ := ⟨_, rfl⟩
            rw [← hsx] at g3
            rw [← hsy] at f3
            have HTA := Lib.hid hta
            have HTB := Lib.hid htb
            have j0 : (0 : Int) ≤ (j : Int) := by omega
            have j1 : (j : Int) < (p.1.length : Int) := by omega
            have j2 : (j : Int) < (r.1.length : Int) := by omega
            by_cases hxy : x = y
            · have hss : sy = sx := by rw [hsx, hsy, hxy]
              subst hss
              have HN := Lib.hid (show p.1.take (j + 1) = r.1.take (j + 1) by rw [HTA.out, HTB.out, HTK.out, hxy])
              clear hta htb hx hy hsx hsy hxy
              go_upto_region 8 with fail
              go_quiet (fail)
              go_wp2_with fail
              exact ⟨⟨j + 1, by omega, by go_num, HN.out, below_drewN HBR.out _, below_drewN HBR2.out _⟩, by simp [RowKit.intOf]; omega⟩
            · have HN := Lib.hid (show q = false by
                rw [HQ2.out, decide_eq_false_iff_not]
                intro e
                have h1 : (p.1.take r.1.length)[j]? = r.1[j]? := by rw [e]
                rw [List.getElem?_take_of_lt hltj, List.getElem?_eq_getElem hltp, List.getElem?_eq_getElem hltj, ← hx, ← hy] at h1
                injection h1 with h1
                exact hxy h1)
              have u3 : (sx.toList == sy.toList) = false := by
                rw [beq_eq_false_iff_ne, ByteArray.toList_eq, ByteArray.toList_eq]
                intro e
                rw [hsx, hsy] at e
                exact hxy e
              have u4 : (!sx.toList == sy.toList) = true := by rw [u3]; rfl
              clear hta htb hx hy hsx hsy hxy
              go_upto_region 8 with fail
              go_quiet (fail)
              go_wp2_with fail
              go_ret
              exact ⟨by rw [HN.out]; rfl, below_drewN HBR.out _⟩
          · have HE := Lib.hid (show q = true by
              rw [HQ2.out, decide_eq_true_iff]
              have h1 := HTK.out
              rw [show j = r.1.length by omega, List.take_length] at h1
              exact h1)
            go_wp2_with fail
            go_ret
            exact ⟨by rw [HE.out]; rfl, HBR.out⟩
    · have u2 : ((r.2 : Int) != 0) = true := by rw [bne_iff_ne]; omega
      have HF := Lib.hid (show q = false by rw [HQ.out]; simp [he2])
      clear he he2
      go_wp2_with fail
      go_ret
      exact ⟨by rw [HF.out]; rfl, HB2.out⟩
  · have u1 : ((p.2 : Int) != 0) = true := by rw [bne_iff_ne]; omega
    have HF := Lib.hid (show q = false by rw [HQ.out]; simp [he])
    clear he
    go_wp2_with fail
    go_ret
    exact ⟨by rw [HF.out]; rfl, HB2.out⟩
end Go.Proofs.YtoehpoodfbgdiabDoor
