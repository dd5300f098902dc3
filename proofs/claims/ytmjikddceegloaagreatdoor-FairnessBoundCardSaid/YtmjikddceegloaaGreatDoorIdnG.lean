/- The contract of the document's Compare (ident), and the plain function that it computes. -/
import Derived.Test.YtmjikddceegloaaGreatDoorIdnF
import Derived.BigQuiet
import Derived.Deep.QuietTactic
import Derived.Deep.DeepCutAuto
import Derived.Deep.CutBlock
namespace Go.Proofs.YtmjikddceegloaaGreatDoor
open Go.RowKit Go.Lib

def dg (b : UInt8) : Bool := digB b.toNat
theorem dropW_le (l : List UInt8) : (l.dropWhile dg).length ≤ l.length := (List.dropWhile_suffix _).length_le
/-- Natural order: -1, 0 or 1. -/
def cmpL : List UInt8 → List UInt8 → Int
  | [], [] => 0
  | [], _ :: _ => -1
  | _ :: _, [] => 1
  | x :: a, y :: b =>
    if (dg x && dg y) = true then
      (if runsI (x :: a.takeWhile dg) (y :: b.takeWhile dg) ≠ 0 then runsI (x :: a.takeWhile dg) (y :: b.takeWhile dg) else cmpL (a.dropWhile dg) (b.dropWhile dg))
    else if x.toNat < y.toNat then -1 else if y.toNat < x.toNat then 1 else cmpL a b
termination_by a => a.length
decreasing_by
  · have := dropW_le a; simp only [List.length_cons]; omega
  · simp only [List.length_cons]; omega
theorem take_tw (l : List UInt8) : l.take (l.takeWhile dg).length = l.takeWhile dg := by
  conv => lhs; arg 2; rw [← List.takeWhile_append_dropWhile (p := dg) (l := l)]
  exact List.take_left
theorem drop_tw (l : List UInt8) : l.drop (l.takeWhile dg).length = l.dropWhile dg := by
  conv => lhs; arg 2; rw [← List.takeWhile_append_dropWhile (p := dg) (l := l)]
  exact List.drop_left
/-- Where a run begins: its end, its digits, what stands behind. -/
theorem run_parts {l : List UInt8} {i : Nat} (h : i < l.length) (hd : dg l[i] = true) :
    runE l i = i + 1 + ((l.drop (i + 1)).takeWhile dg).length ∧ (l.take (runE l i)).drop i = l[i] :: (l.drop (i + 1)).takeWhile dg ∧ l.drop (runE l i) = (l.drop (i + 1)).dropWhile dg ∧ runE l i ≤ l.length := by
  have he : runE l i = i + 1 + ((l.drop (i + 1)).takeWhile dg).length := by
    unfold runE
    rw [List.drop_eq_getElem_cons h, List.takeWhile_cons, if_pos (show digB l[i].toNat = true from hd), List.length_cons]
    show i + (((l.drop (i + 1)).takeWhile dg).length + 1) = _
    omega
  have hle : ((l.drop (i + 1)).takeWhile dg).length ≤ l.length - (i + 1) := by
    have := (List.takeWhile_prefix dg (l := l.drop (i + 1))).length_le
    rwa [List.length_drop] at this
  refine ⟨he, ?_, ?_, by omega⟩
  · rw [he, List.drop_take, List.drop_eq_getElem_cons h, show i + 1 + ((l.drop (i + 1)).takeWhile dg).length - i = ((l.drop (i + 1)).takeWhile dg).length + 1 by omega, List.take_succ_cons, take_tw]
  · rw [he, ← List.drop_drop, drop_tw]

theorem ord_if (x y : Nat) (r : Int) : (if x < y then -1 else if y < x then 1 else r) = if ordI (decide (x < y)) (decide (y < x)) ≠ 0 then ordI (decide (x < y)) (decide (y < x)) else r := by
  unfold ordI
  by_cases h1 : x < y
  · simp [h1]
  · by_cases h2 : y < x
    · simp [h1, h2]
    · simp [h1, h2]

set_option maxHeartbeats 4000000 in
set_option maxRecDepth 100000 in
theorem refCompare_any (a b : ByteArray) (ha : a.size ≤ 1099511627776) (hb : b.size ≤ 1099511627776) (w : World) :
    Calls Tryz.prog 47 #[.string a, .string b] w fun e w' => e = .returned (.int .i64 (cmpL a.data.toList b.data.toList)) ∧ ∃ n, w' = w.drewN n := by
  have HAL := Lib.hid (listS_len a)
  have HBL := Lib.hid (listS_len b)
  have RA := Lib.hid (fun (i : Nat) (h : i ≤ a.size) w => refRun_any a i ha h w)
  have RB := Lib.hid (fun (i : Nat) (h : i ≤ b.size) w => refRun_any b i hb h w)
  go_enter Tryz.func47, Tryz.ntmps47
  go_wp2_with fail
  go_loopw [5, 6, 7, 8, 9] (fun s5 s6 _ _ _ wr => ∃ i k : Nat, i ≤ a.size ∧ k ≤ b.size ∧ s5 = .int .i64 i ∧ s6 = .int .i64 k ∧ cmpL a.data.toList b.data.toList = cmpL (a.data.toList.drop i) (b.data.toList.drop k) ∧ ∃ n, wr = w.drewN n) (fun s5 _ _ _ _ _ => a.size - (RowKit.intOf s5).toNat)
  case atStart => exact ⟨0, 0, by omega, by omega, rfl, rfl, by rw [List.drop_zero, List.drop_zero], 0, rfl⟩
  case round =>
    obtain ⟨i, k, hi, hk, rfl, rfl, he, n0, hwr⟩ := hrel
    have HE := Lib.hid he
    have HW := Lib.hid hwr
    clear he hwr
    by_cases hia : i < a.size
    · by_cases hkb : k < b.size
      · have hca := List.drop_eq_getElem_cons (l := a.data.toList) (i := i) (by rw [HAL.out]; exact hia)
        have hcb := List.drop_eq_getElem_cons (l := b.data.toList) (i := k) (by rw [HBL.out]; exact hkb)
        rw [show a.data.toList[i]'(by rw [HAL.out]; exact hia) = a[i] from rfl] at hca
        rw [show b.data.toList[k]'(by rw [HBL.out]; exact hkb) = b[k] from rfl] at hcb
        have hst := HE.out
        rw [hca, hcb, cmpL] at hst
        have rpa := run_parts (l := a.data.toList) (i := i) (by rw [HAL.out]; exact hia)
        have rpb := run_parts (l := b.data.toList) (i := k) (by rw [HBL.out]; exact hkb)
        rw [show a.data.toList[i]'(by rw [HAL.out]; exact hia) = a[i] from rfl] at rpa
        rw [show b.data.toList[k]'(by rw [HBL.out]; exact hkb) = b[k] from rfl] at rpb
        have HST := Lib.hid hst
        have RPA := Lib.hid rpa
        have RPB := Lib.hid rpb
        have i1 : (0 : Int) ≤ i ∧ (i : Int) < (a.size : Int) := by omega
        have k1 : (0 : Int) ≤ k ∧ (k : Int) < (b.size : Int) := by omega
        clear hca hcb hst rpa rpb
        have DA := Lib.hid (fun w => refDigitS_any a[i].toNat a[i].toNat_lt w)
        have DB := Lib.hid (fun w => refDigitS_any b[k].toNat b[k].toNat_lt w)
        have O := Lib.hid (fun (l g : Bool) w => (refOrder_any l g w).mono fun _ _ ⟨h1, h2⟩ => (⟨h1, h2.symm⟩ : _ ∧ _))
        go_upto_region 5 with fail
        go_quiet ((go_at_call 67; exact Calls.quiet_of_same (O.out _ _ _)))
        obtain ⟨wx, hwx⟩ : ∃ wx, wx = wr.drewN nq := ⟨_, rfl⟩
        rw [← hwx]
        have HWX := Lib.hid (show wx = w.drewN (n0 + nq) by rw [hwx, HW.out, World.drewN_drewN])
        clear hwx
        by_cases hd : (dg a[i] && dg b[k]) = true
        · have hd2 : dg a[i] = true ∧ dg b[k] = true := by simpa using hd
          have HST2 := Lib.hid (HST.out.trans (if_pos hd))
          obtain ⟨pa1, pa2, pa3, pa4⟩ := RPA.out hd2.1
          obtain ⟨pb1, pb2, pb3, pb4⟩ := RPB.out hd2.2
          rw [HAL.out] at pa4
          rw [HBL.out] at pb4
          rw [show digB a[i].toNat = true from hd2.1] at DA
          rw [show digB b[k].toNat = true from hd2.2] at DB
          have RA1 := Lib.hid (RA.out i (by omega))
          have RB1 := Lib.hid (RB.out k (by omega))
          obtain ⟨m, hm⟩ : ∃ m, m = runE a.data.toList i := ⟨_, rfl⟩
          obtain ⟨n, hn⟩ : ∃ n, n = runE b.data.toList k := ⟨_, rfl⟩
          rw [← hm] at pa1 pa2 pa3 pa4 RA1
          rw [← hn] at pb1 pb2 pb3 pb4 RB1
          have ea : (a.extract i m).data.toList = a[i] :: (a.data.toList.drop (i + 1)).takeWhile dg := by rw [extract_mk]; exact pa2
          have eb : (b.extract k n).data.toList = b[k] :: (b.data.toList.drop (k + 1)).takeWhile dg := by rw [extract_mk]; exact pb2
          have za : (a.extract i m).size ≤ 1099511627776 := by
            have := listS_len (a.extract i m)
            rw [extract_mk] at this ⊢
            simp only [List.length_drop, List.length_take] at this
            rw [HAL.out] at this
            omega
          have zb : (b.extract k n).size ≤ 1099511627776 := by
            have := listS_len (b.extract k n)
            rw [extract_mk] at this ⊢
            simp only [List.length_drop, List.length_take] at this
            rw [HBL.out] at this
            omega
          have RR := fun w => (refRuns_any (a.extract i m) (b.extract k n) za zb w).mono fun _ _ ⟨h1, h2⟩ => (⟨h1, h2.symm⟩ : _ ∧ _)
          rw [ea, eb] at RR
          obtain ⟨c, hc⟩ : ∃ c, c = runsI (a[i] :: (a.data.toList.drop (i + 1)).takeWhile dg) (b[k] :: (b.data.toList.drop (k + 1)).takeWhile dg) := ⟨_, rfl⟩
          rw [← hc] at RR
          have HST3 := HST2.out
          rw [← hc, ← pa3, ← pb3] at HST3
          have HST3 := Lib.hid HST3
          have RR := Lib.hid RR
          have m1 : (i : Int) < (m : Int) ∧ (m : Int) ≤ (a.size : Int) := by omega
          have n1 : (k : Int) < (n : Int) ∧ (n : Int) ≤ (b.size : Int) := by omega
          clear hm hn hc ea eb za zb pa1 pa2 pa3 pa4 pb1 pb2 pb3 pb4 hd hd2
          go_wp2_with fail
          go_fit (DA.out _)
          rintro e w1 ⟨rfl, rfl⟩
          go_wp2_with fail
          go_fit (DB.out _)
          rintro e w1 ⟨rfl, rfl⟩
          go_wp2_with fail
          go_fit (RA1.out _)
          rintro e w1 ⟨rfl, rfl⟩
          go_wp2_with fail
          go_fit (RB1.out _)
          rintro e w1 ⟨rfl, rfl⟩
          go_wp2_with fail
          go_quiet ((go_at_call 70; exact Calls.quiet_of_same (RR.out _)))
          by_cases hc0 : c = 0
          · have u1 : (c != 0) = false := by rw [bne_eq_false_iff_eq]; exact hc0
            have HN := Lib.hid (HST3.out.trans (if_neg (by simp [hc0])))
            clear hc0
            go_wp2_with fail
            exact ⟨⟨m, n, by omega, by omega, rfl, rfl, HN.out, _, by rw [HWX.out, World.drewN_drewN]⟩, by simp [RowKit.intOf]; omega⟩
          · have u1 : (c != 0) = true := by rw [bne_iff_ne]; exact hc0
            have HN := Lib.hid (HST3.out.trans (if_pos hc0))
            clear hc0
            go_wp2_with fail
            go_ret
            exact ⟨by rw [HN.out]; rfl, _, by rw [HWX.out, World.drewN_drewN]⟩
        · have hst2 := HST.out.trans (if_neg hd)
          rw [ord_if] at hst2
          obtain ⟨c, hc⟩ : ∃ c, c = ordI (decide (a[i].toNat < b[k].toNat)) (decide (b[k].toNat < a[i].toNat)) := ⟨_, rfl⟩
          rw [← hc] at hst2 ⊢
          have HST2 := Lib.hid hst2
          clear hst2 hc
          by_cases hda : dg a[i] = true
          · have hdb : dg b[k] = false := by
              cases h : dg b[k] with
              | false => rfl
              | true => exact absurd (by rw [hda, h]; rfl) hd
            rw [show digB a[i].toNat = true from hda] at DA
            rw [show digB b[k].toNat = false from hdb] at DB
            clear hd hda hdb
            by_cases hc0 : c = 0
            · have u1 : (c != 0) = false := by rw [bne_eq_false_iff_eq]; exact hc0
              have HN := Lib.hid (HST2.out.trans (if_neg (by simp [hc0])))
              clear hc0
              go_wp2_with fail
              go_fit (DA.out _)
              rintro e w1 ⟨rfl, rfl⟩
              go_wp2_with fail
              go_fit (DB.out _)
              rintro e w1 ⟨rfl, rfl⟩
              go_wp2_with fail
              exact ⟨⟨i + 1, k + 1, by omega, by omega, by go_num, by go_num, HN.out, _, HWX.out⟩, by simp [RowKit.intOf]; omega⟩
            · have u1 : (c != 0) = true := by rw [bne_iff_ne]; exact hc0
              have HN := Lib.hid (HST2.out.trans (if_pos hc0))
              clear hc0
              go_wp2_with fail
              go_fit (DA.out _)
              rintro e w1 ⟨rfl, rfl⟩
              go_wp2_with fail
              go_fit (DB.out _)
              rintro e w1 ⟨rfl, rfl⟩
              go_wp2_with fail
              go_ret
              exact ⟨by rw [HN.out]; rfl, _, HWX.out⟩
          · have hda2 : dg a[i] = false := by simpa using hda
            rw [show digB a[i].toNat = false from hda2] at DA
            clear hd hda hda2
            by_cases hc0 : c = 0
            · have u1 : (c != 0) = false := by rw [bne_eq_false_iff_eq]; exact hc0
              have HN := Lib.hid (HST2.out.trans (if_neg (by simp [hc0])))
              clear hc0
              go_wp2_with fail
              go_fit (DA.out _)
              rintro e w1 ⟨rfl, rfl⟩
              go_wp2_with fail
              exact ⟨⟨i + 1, k + 1, by omega, by omega, by go_num, by go_num, HN.out, _, HWX.out⟩, by simp [RowKit.intOf]; omega⟩
            · have u1 : (c != 0) = true := by rw [bne_iff_ne]; exact hc0
              have HN := Lib.hid (HST2.out.trans (if_pos hc0))
              clear hc0
              go_wp2_with fail
              go_fit (DA.out _)
              rintro e w1 ⟨rfl, rfl⟩
              go_wp2_with fail
              go_ret
              exact ⟨by rw [HN.out]; rfl, _, HWX.out⟩
      · obtain rfl : k = b.size := by omega
        have HN := Lib.hid (show cmpL a.data.toList b.data.toList = 1 by
          rw [HE.out, List.drop_eq_getElem_cons (l := a.data.toList) (by rw [HAL.out]; exact hia), (show b.data.toList.drop b.size = [] from List.drop_eq_nil_of_le (by rw [HBL.out]; exact Nat.le_refl _)), cmpL])
        have O := Lib.hid (fun w => refOrder_any false true w)
        go_wp2_with fail
        go_fit (O.out _)
        rintro e w1 ⟨rfl, rfl⟩
        go_wp2_with fail
        go_ret
        exact ⟨by rw [HN.out]; rfl, n0, HW.out⟩
    · obtain rfl : i = a.size := by omega
      by_cases hkb : k < b.size
      · have HN := Lib.hid (show cmpL a.data.toList b.data.toList = -1 by
          rw [HE.out, List.drop_eq_getElem_cons (l := b.data.toList) (by rw [HBL.out]; exact hkb), (show a.data.toList.drop a.size = [] from List.drop_eq_nil_of_le (by rw [HAL.out]; exact Nat.le_refl _)), cmpL])
        have O := Lib.hid (fun w => refOrder_any true false w)
        go_wp2_with fail
        go_fit (O.out _)
        rintro e w1 ⟨rfl, rfl⟩
        go_wp2_with fail
        go_ret
        exact ⟨by rw [HN.out]; rfl, n0, HW.out⟩
      · obtain rfl : k = b.size := by omega
        have HN := Lib.hid (show cmpL a.data.toList b.data.toList = 0 by
          rw [HE.out, (show b.data.toList.drop b.size = [] from List.drop_eq_nil_of_le (by rw [HBL.out]; exact Nat.le_refl _)), (show a.data.toList.drop a.size = [] from List.drop_eq_nil_of_le (by rw [HAL.out]; exact Nat.le_refl _)), cmpL])
        have O := Lib.hid (fun w => refOrder_any false false w)
        go_wp2_with fail
        go_fit (O.out _)
        rintro e w1 ⟨rfl, rfl⟩
        go_wp2_with fail
        go_ret
        exact ⟨by rw [HN.out]; rfl, n0, HW.out⟩
end Go.Proofs.YtmjikddceegloaaGreatDoor
