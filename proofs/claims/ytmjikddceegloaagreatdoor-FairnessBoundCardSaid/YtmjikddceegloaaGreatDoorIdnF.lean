/- Contracts of the document's digit, order, run, strip and runs (ident), and the plain functions that they compute. -/
import Derived.Test.YtmjikddceegloaaGreatDoorBaseS
namespace Go.Proofs.YtmjikddceegloaaGreatDoor
open Go.RowKit Go.Lib

def digB (c : Nat) : Bool := decide (48 ≤ c) && decide (c ≤ 57)
def ordI (l g : Bool) : Int := if l = true then -1 else if g = true then 1 else 0
/-- The index behind the run of digits that begins at an index. -/
def runE (l : List UInt8) (i : Nat) : Nat := i + ((l.drop i).takeWhile fun b => digB b.toNat).length
/-- A run without its leading zeros. -/
def stripL (l : List UInt8) : List UInt8 := l.dropWhile fun b => b.toNat == 48
def runsI (a b : List UInt8) : Int :=
  if (stripL a).length ≠ (stripL b).length then ordI (decide ((stripL a).length < (stripL b).length)) (decide ((stripL b).length < (stripL a).length))
  else if stripL a ≠ stripL b then (if Op.bytesLess (stripL a) (stripL b) = true then -1 else 1)
  else ordI (decide (a.length < b.length)) (decide (b.length < a.length))

theorem refDigitS_any (c : Nat) (hc : c < 256) (w : World) :
    Calls Tryz.prog 68 #[.int .u8 c] w fun e w' => e = .returned (.bool (digB c)) ∧ w = w' := by
  by_cases h1 : 48 ≤ c
  · have hv := Lib.hid (show digB c = decide ((c : Int) ≤ 57) by unfold digB; by_cases h2 : c ≤ 57 <;> simp [h1, h2] <;> omega)
    go_enter Tryz.func68, Tryz.ntmps68
    go_wp2_with fail
    go_ret
    exact ⟨by rw [hv.out]; rfl, rfl⟩
  · have hv := Lib.hid (show digB c = false by unfold digB; simp; omega)
    have c1 : ¬ (48 : Int) ≤ c := by omega
    go_enter Tryz.func68, Tryz.ntmps68
    go_wp2_with fail
    go_ret
    exact ⟨by rw [hv.out]; simp <;> omega, rfl⟩
theorem refOrder_any (l g : Bool) (w : World) :
    Calls Tryz.prog 67 #[.bool l, .bool g] w fun e w' => e = .returned (.int .i64 (ordI l g)) ∧ w = w' := by
  cases l <;> cases g
  all_goals
    go_enter Tryz.func67, Tryz.ntmps67
    go_wp2_with fail
    go_ret
    exact ⟨rfl, rfl⟩

theorem runE_in {l : List UInt8} {j : Nat} (h : j < l.length) (hd : digB l[j].toNat = true) : runE l j = runE l (j + 1) := by
  unfold runE
  rw [List.drop_eq_getElem_cons h, List.takeWhile_cons, if_pos hd, List.length_cons]
  omega
theorem runE_out {l : List UInt8} {j : Nat} (h : j < l.length) (hd : digB l[j].toNat = false) : runE l j = j := by
  unfold runE
  rw [List.drop_eq_getElem_cons h, List.takeWhile_cons, if_neg (by rw [hd]; decide)]
  rfl
theorem runE_end (l : List UInt8) : runE l l.length = l.length := by
  unfold runE
  rw [List.drop_length]
  rfl
theorem listS_len (a : ByteArray) : a.data.toList.length = a.size := by rw [Array.length_toList]; rfl

set_option maxHeartbeats 1000000 in
theorem refRun_any (s : ByteArray) (i : Nat) (hs : s.size ≤ 1099511627776) (hi : i ≤ s.size) (w : World) :
    Calls Tryz.prog 69 #[.string s, .int .i64 i] w fun e w' => e = .returned (.int .i64 (runE s.data.toList i : Nat)) ∧ w = w' := by
  have hsl := listS_len s
  have HSL := Lib.hid hsl
  clear hsl
  go_enter Tryz.func69, Tryz.ntmps69
  go_wp2_with fail
  go_loop [1] (fun s1 => ∃ j : Nat, i ≤ j ∧ j ≤ s.size ∧ s1 = .int .i64 j ∧ runE s.data.toList i = runE s.data.toList j) (fun s1 => s.size - (RowKit.intOf s1).toNat)
  case atStart => exact ⟨i, by omega, hi, rfl, rfl⟩
  case round =>
    obtain ⟨j, hij, hj, rfl, he⟩ := hrel
    have HE := Lib.hid he
    clear he
    by_cases hlt : j < s.size
    · have D := Lib.hid (fun w => refDigitS_any s[j].toNat s[j].toNat_lt w)
      by_cases hd : digB s[j].toNat = true
      · have HN := Lib.hid (show runE s.data.toList i = runE s.data.toList (j + 1) by rw [HE.out]; exact runE_in (by rw [HSL.out]; exact hlt) hd)
        rw [hd] at D
        clear hd
        go_wp2_with fail
        go_fit (D.out _)
        rintro e w1 ⟨rfl, rfl⟩
        go_wp2_with fail
        go_round
        case rel => exact ⟨j + 1, by omega, by omega, by go_num, HN.out⟩
        case measure => simp [RowKit.intOf]; omega
      · have hd2 : digB s[j].toNat = false := by simpa using hd
        have HN := Lib.hid (show runE s.data.toList i = j by rw [HE.out]; exact runE_out (by rw [HSL.out]; exact hlt) hd2)
        rw [hd2] at D
        clear hd hd2
        go_wp2_with fail
        go_fit (D.out _)
        rintro e w1 ⟨rfl, rfl⟩
        go_wp2_with fail
        go_ret
        exact ⟨by rw [HN.out]; rfl, rfl⟩
    · obtain rfl : j = s.size := by omega
      have HN := Lib.hid (show runE s.data.toList i = s.size by rw [HE.out, ← HSL.out]; exact runE_end _)
      go_wp2_with fail
      go_ret
      exact ⟨by rw [HN.out]; rfl, rfl⟩

theorem stripL_in {l : List UInt8} {j : Nat} (h : j < l.length) (hd : l[j].toNat = 48) : stripL (l.drop j) = stripL (l.drop (j + 1)) := by
  unfold stripL
  rw [List.drop_eq_getElem_cons h, List.dropWhile_cons, if_pos (by rw [hd]; rfl)]
theorem stripL_out {l : List UInt8} {j : Nat} (h : j < l.length) (hd : l[j].toNat ≠ 48) : stripL (l.drop j) = l.drop j := by
  unfold stripL
  rw [List.drop_eq_getElem_cons h, List.dropWhile_cons, if_neg (by simpa using hd)]
theorem ret_str {a b : ByteArray} (h : a = b) : Ending.returned (.string a) = .returned (.string b) := by rw [h]
set_option maxHeartbeats 1000000 in
theorem refStrip_any (s : ByteArray) (hs : s.size ≤ 1099511627776) (w : World) :
    Calls Tryz.prog 87 #[.string s] w fun e w' => e = .returned (.string ⟨(stripL s.data.toList).toArray⟩) ∧ w = w' := by
  have hsl := listS_len s
  have HSL := Lib.hid hsl
  clear hsl
  go_enter Tryz.func87, Tryz.ntmps87
  go_wp2_with fail
  go_loop [3] (fun s3 => ∃ j : Nat, j ≤ s.size ∧ s3 = .int .i64 j ∧ stripL s.data.toList = stripL (s.data.toList.drop j)) (fun s3 => s.size - (RowKit.intOf s3).toNat)
  case atStart => exact ⟨0, by omega, rfl, by rw [List.drop_zero]⟩
  case round =>
    obtain ⟨j, hj, rfl, he⟩ := hrel
    have HE := Lib.hid he
    clear he
    have HX := Lib.hid (show s.extract j s.size = ⟨(s.data.toList.drop j).toArray⟩ by rw [extract_mk, List.take_of_length_le (by rw [HSL.out]; exact Nat.le_refl _)])
    by_cases hlt : j < s.size
    · by_cases hd : s[j].toNat = 48
      · have HN := Lib.hid (show stripL s.data.toList = stripL (s.data.toList.drop (j + 1)) by rw [HE.out]; exact stripL_in (by rw [HSL.out]; exact hlt) hd)
        have u1 : (((s[j].toNat : Nat) : Int) == 48) = true := by rw [beq_iff_eq]; omega
        clear hd
        go_wp2_with fail
        go_round
        case rel => exact ⟨j + 1, by omega, by go_num, HN.out⟩
        case measure => simp [RowKit.intOf]; omega
      · have HN := Lib.hid (show stripL s.data.toList = s.data.toList.drop j by rw [HE.out]; exact stripL_out (by rw [HSL.out]; exact hlt) hd)
        have u1 : (((s[j].toNat : Nat) : Int) == 48) = false := by rw [beq_eq_false_iff_ne]; omega
        clear hd
        go_wp2_with fail
        go_ret
        exact ⟨ret_str (by rw [HN.out]; exact HX.out), rfl⟩
    · obtain rfl : j = s.size := by omega
      have HN := Lib.hid (show stripL s.data.toList = s.data.toList.drop s.size by rw [HE.out, List.drop_eq_nil_of_le (by rw [HSL.out]; exact Nat.le_refl _)]; rfl)
      go_wp2_with fail
      go_ret
      exact ⟨ret_str (by rw [HN.out, ← HX.out, extract_mk]; simp; rfl), rfl⟩

theorem strip_len (l : List UInt8) : (stripL l).length ≤ l.length := (List.dropWhile_suffix _).length_le
theorem mkS_size (x : List UInt8) : (⟨x.toArray⟩ : ByteArray).size = x.length := by
  show x.toArray.size = _
  simp
set_option maxHeartbeats 2000000 in
theorem refRuns_any (a b : ByteArray) (ha : a.size ≤ 1099511627776) (hb : b.size ≤ 1099511627776) (w : World) :
    Calls Tryz.prog 70 #[.string a, .string b] w fun e w' => e = .returned (.int .i64 (runsI a.data.toList b.data.toList)) ∧ w = w' := by
  have SA := Lib.hid (fun w => refStrip_any a ha w)
  have SB := Lib.hid (fun w => refStrip_any b hb w)
  obtain ⟨q, hq⟩ : ∃ q, q = runsI a.data.toList b.data.toList := ⟨_, rfl⟩
  rw [← hq]
  unfold runsI at hq
  have l1 := strip_len a.data.toList
  have l2 := strip_len b.data.toList
  rw [listS_len] at l1 l2
  obtain ⟨x, hx⟩ : ∃ x, x = stripL a.data.toList := ⟨_, rfl⟩
  obtain ⟨y, hy⟩ : ∃ y, y = stripL b.data.toList := ⟨_, rfl⟩
  rw [← hx, ← hy, listS_len, listS_len] at hq
  rw [← hx] at SA l1
  rw [← hy] at SB l2
  have mx := mkS_size x
  have my := mkS_size y
  obtain ⟨sx, hsx⟩ : ∃ s : ByteArray, s = ⟨x.toArray⟩ := ⟨_, rfl⟩
  obtain ⟨sy, hsy⟩ : ∃ s : ByteArray, s = ⟨y.toArray⟩ := ⟨_, rfl⟩
  rw [← hsx] at SA mx
  rw [← hsy] at SB my
  have tx : sx.toList = x := by rw [ByteArray.toList_eq, hsx]
  have ty : sy.toList = y := by rw [ByteArray.toList_eq, hsy]
  rw [← mx, ← my] at hq
  rw [← mx] at l1
  rw [← my] at l2
  rw [← tx, ← ty] at hq
  have HQ := Lib.hid hq
  clear hq hx hy mx my hsx hsy tx ty x y
  by_cases hl : sx.size = sy.size
  · have u1 : ((sx.size : Int) != (sy.size : Int)) = false := by rw [bne_eq_false_iff_eq]; omega
    by_cases he : sx.toList = sy.toList
    · have HF := Lib.hid (show q = ordI (decide (a.size < b.size)) (decide (b.size < a.size)) by rw [HQ.out, if_neg (by simp [hl]), if_neg (by simp [he])])
      have u2 : (!sx.toList == sy.toList) = false := by rw [he]; simp
      have u3 : (sx.toList == sy.toList) = true := by rw [he]; simp
      have O := Lib.hid (fun (l g : Bool) (hl : l = decide (a.size < b.size)) (hg : g = decide (b.size < a.size)) w => hl ▸ hg ▸ refOrder_any l g w)
      clear hl he
      go_enter Tryz.func70, Tryz.ntmps70
      go_wp2_with fail
      go_fit (SA.out _)
      rintro e w1 ⟨rfl, rfl⟩
      go_wp2_with fail
      go_fit (SB.out _)
      rintro e w1 ⟨rfl, rfl⟩
      go_wp2_with fail
      go_fit (O.out _ _ (by first | rfl | (rw [decide_eq_decide]; omega)) (by first | rfl | (rw [decide_eq_decide]; omega)) _)
      rintro e w1 ⟨rfl, rfl⟩
      go_wp2_with fail
      go_ret
      exact ⟨by rw [HF.out]; rfl, rfl⟩
    · have HF := Lib.hid (show q = if Op.bytesLess sx.toList sy.toList = true then -1 else 1 by rw [HQ.out, if_neg (by simp [hl]), if_pos he])
      have u3 : (sx.toList == sy.toList) = false := by rw [beq_eq_false_iff_ne]; exact he
      have u2 : (!sx.toList == sy.toList) = true := by rw [u3]; rfl
      clear hl he
      obtain ⟨g, hg⟩ : ∃ g, g = Op.bytesLess sx.toList sy.toList := ⟨_, rfl⟩
      rw [← hg] at HF
      have O := Lib.hid (fun w => refOrder_any g (!g) w)
      have HO := Lib.hid (show ordI g (!g) = if g = true then -1 else 1 by cases g <;> rfl)
      go_enter Tryz.func70, Tryz.ntmps70
      have HG := Lib.hid hg
      clear hg
      go_wp2_with fail
      go_fit (SA.out _)
      rintro e w1 ⟨rfl, rfl⟩
      go_wp2_with fail
      go_fit (SB.out _)
      rintro e w1 ⟨rfl, rfl⟩
      go_wp2_with fail
      rw [← HG.out]
      go_fit (O.out _)
      rintro e w1 ⟨rfl, rfl⟩
      go_wp2_with fail
      go_ret
      exact ⟨by rw [HF.out, ← HO.out]; rfl, rfl⟩
  · have u1 : ((sx.size : Int) != (sy.size : Int)) = true := by rw [bne_iff_ne]; omega
    have HF := Lib.hid (show q = ordI (decide (sx.size < sy.size)) (decide (sy.size < sx.size)) by rw [HQ.out, if_pos hl])
    have O := Lib.hid (fun (l g : Bool) (hl : l = decide (sx.size < sy.size)) (hg : g = decide (sy.size < sx.size)) w => hl ▸ hg ▸ refOrder_any l g w)
    clear hl
    go_enter Tryz.func70, Tryz.ntmps70
    go_wp2_with fail
    go_fit (SA.out _)
    rintro e w1 ⟨rfl, rfl⟩
    go_wp2_with fail
    go_fit (SB.out _)
    rintro e w1 ⟨rfl, rfl⟩
    go_wp2_with fail
    go_fit (O.out _ _ (by first | rfl | (rw [decide_eq_decide]; omega)) (by first | rfl | (rw [decide_eq_decide]; omega)) _)
    rintro e w1 ⟨rfl, rfl⟩
    go_wp2_with fail
    go_ret
    exact ⟨by rw [HF.out]; rfl, rfl⟩
end Go.Proofs.YtmjikddceegloaaGreatDoor
