/- The contracts of the program's compareElements and Compare (ident). -/
import Derived.Test.YtmjikddceegloaaGreatDoorIdpF
import Derived.Deep.RegionWith
import Derived.Deep.DeepCutAuto
import Derived.Deep.CutBlock
namespace Go.Proofs.YtmjikddceegloaaGreatDoor
open Go.RowKit Go.Lib

def compE : List UInt8 → List UInt8 → Int
  | x :: r, y :: t => if (dg x && dg y) = true then runsI (x :: r) (y :: t) else natC x.toNat y.toNat
  | _, _ => 0
theorem compE_cons (x y : UInt8) (r t : List UInt8) : compE (x :: r) (y :: t) = if (dg x && dg y) = true then runsI (x :: r) (y :: t) else natC x.toNat y.toNat := rfl
theorem natC_ite (x y : Nat) (r : Int) (h : x ≠ y) : (if x < y then -1 else if y < x then 1 else r) = natC x y := by
  unfold natC
  rcases Nat.lt_or_gt_of_ne h with g | g
  · simp [g]
  · simp [g, Nat.not_lt.2 (Nat.le_of_lt g)]
theorem firstL_dg {x : UInt8} {a : List UInt8} (h : dg x = true) : firstL (x :: a) = x :: a.takeWhile dg ∧ (x :: a).drop (firstL (x :: a)).length = a.dropWhile dg := by
  have h1 : firstL (x :: a) = x :: a.takeWhile dg := by
    unfold firstL
    rw [List.takeWhile_cons, if_pos h, List.length_cons, Nat.max_eq_left (by omega), List.take_succ_cons, take_tw]
  refine ⟨h1, ?_⟩
  rw [h1, List.length_cons, List.drop_succ_cons, drop_tw]
theorem firstL_no {x : UInt8} {a : List UInt8} (h : dg x = false) : firstL (x :: a) = [x] ∧ (x :: a).drop (firstL (x :: a)).length = a := by
  have h1 : firstL (x :: a) = [x] := by
    unfold firstL
    rw [List.takeWhile_cons, if_neg (by rw [h]; decide)]
    simp
  refine ⟨h1, ?_⟩
  rw [h1]; rfl
theorem runs_zero {e f : List UInt8} : runsI e f = 0 ↔ e = f := by
  rw [runs_key, (lexC_tot natC_tot).eq]
  exact ⟨runK_inj, fun h => by rw [h]⟩
theorem cmp_step (x y : UInt8) (a b : List UInt8) : cmpL (x :: a) (y :: b) = if firstL (x :: a) = firstL (y :: b) then cmpL ((x :: a).drop (firstL (x :: a)).length) ((y :: b).drop (firstL (y :: b)).length) else compE (firstL (x :: a)) (firstL (y :: b)) := by
  rw [cmpL]
  cases hx : dg x <;> cases hy : dg y
  · obtain ⟨f1, d1⟩ := firstL_no (a := a) hx
    obtain ⟨f2, d2⟩ := firstL_no (a := b) hy
    rw [d1, d2, f1, f2, if_neg (by simp)]
    by_cases h : x = y
    · subst h; simp
    · have hn : x.toNat ≠ y.toNat := fun e => h (UInt8.toNat_inj.1 e)
      rw [if_neg (show ¬ [x] = [y] from fun e => h (List.cons.inj e).1), compE_cons, hx, hy, natC_ite _ _ _ hn]
      rfl
  · obtain ⟨f1, d1⟩ := firstL_no (a := a) hx
    obtain ⟨f2, d2⟩ := firstL_dg (a := b) hy
    have h : x ≠ y := fun e => by subst e; rw [hx] at hy; cases hy
    have hn : x.toNat ≠ y.toNat := fun e => h (UInt8.toNat_inj.1 e)
    rw [d1, d2, f1, f2, if_neg (by simp), if_neg (fun e => h (List.cons.inj e).1)]
    rw [compE_cons, hx, hy, natC_ite _ _ _ hn]
    rfl
  · obtain ⟨f1, d1⟩ := firstL_dg (a := a) hx
    obtain ⟨f2, d2⟩ := firstL_no (a := b) hy
    have h : x ≠ y := fun e => by subst e; rw [hx] at hy; cases hy
    have hn : x.toNat ≠ y.toNat := fun e => h (UInt8.toNat_inj.1 e)
    rw [d1, d2, f1, f2, if_neg (by simp), if_neg (fun e => h (List.cons.inj e).1)]
    rw [compE_cons, hx, hy, natC_ite _ _ _ hn]
    rfl
  · obtain ⟨f1, d1⟩ := firstL_dg (a := a) hx
    obtain ⟨f2, d2⟩ := firstL_dg (a := b) hy
    rw [d1, d2, f1, f2, if_pos (by simp)]
    rw [compE_cons, hx, hy]
    by_cases h : x :: a.takeWhile dg = y :: b.takeWhile dg
    · rw [if_pos h, if_neg (fun e => e (runs_zero.2 h))]
    · rw [if_neg h, if_pos (fun e => h (runs_zero.1 e))]
      rfl
theorem cmp_end : ∀ (l m : List UInt8), (l = [] ∨ m = []) → cmpL l m = natC l.length m.length
  | [], [], _ => by rw [cmpL]; simp [natC]
  | [], _ :: _, _ => by rw [cmpL]; simp [natC]
  | _ :: _, [], _ => by rw [cmpL]; simp [natC]
  | _ :: _, _ :: _, h => by simp at h
theorem head_list (s : ByteArray) (h : 0 < s.size) : s.data.toList = s[0] :: s.data.toList.drop 1 := by
  have := List.drop_eq_getElem_cons (l := s.data.toList) (i := 0) (by rw [listS_len]; exact h)
  rw [List.drop_zero] at this
  exact this

set_option maxHeartbeats 1000000 in
theorem cmpEl_any (a b : ByteArray) (ha : a.size ≤ 1099511627776) (hb : b.size ≤ 1099511627776) (h0 : 0 < a.size) (h1 : 0 < b.size) (w : World) :
    Calls Tryz.prog 62 #[.string a, .string b] w fun e w' => e = .returned (.int .i64 (compE a.data.toList b.data.toList)) ∧ BelowD w w' := by
  have R := Lib.hid (fun w => cmpRuns_any a b ha hb w)
  have D1 := Lib.hid (fun w => idDigit_any a[0].toNat a[0].toNat_lt w)
  have D2 := Lib.hid (fun w => idDigit_any b[0].toNat b[0].toNat_lt w)
  have C := Lib.hid (fun w => cmpB_any a[0].toNat b[0].toNat w)
  have hE : compE a.data.toList b.data.toList = if (dg a[0] && dg b[0]) = true then runsI a.data.toList b.data.toList else natC a[0].toNat b[0].toNat := by
    have e1 := head_list a h0
    have e2 := head_list b h1
    have h := show compE (a[0] :: a.data.toList.drop 1) (b[0] :: b.data.toList.drop 1) = if (dg a[0] && dg b[0]) = true then runsI (a[0] :: a.data.toList.drop 1) (b[0] :: b.data.toList.drop 1) else natC a[0].toNat b[0].toNat from rfl
    rwa [← e1, ← e2] at h
  rw [show dg a[0] = digB a[0].toNat from rfl, show dg b[0] = digB b[0].toNat from rfl] at hE
  cases g1 : digB a[0].toNat
  · rw [g1] at D1 hE
    have HF := Lib.hid (show compE a.data.toList b.data.toList = natC a[0].toNat b[0].toNat by rw [hE]; simp)
    clear g1 hE
    go_enter Tryz.func62, Tryz.ntmps62
    go_wp2_with fail
    go_fit (D1.out _)
    rintro e w1 ⟨rfl, rfl⟩
    go_wp2_with fail
    go_region_with (go_at_call 82; refine (C.out _).mono ?_; rintro e w' ⟨rfl, rfl⟩)
    all_goals
      go_wp2_with fail
      go_ret
      exact ⟨by rw [HF.out]; rfl, (BelowD.refl _).drew⟩
  · rw [g1] at D1 hE
    cases g2 : digB b[0].toNat
    · rw [g2] at D2 hE
      have HF := Lib.hid (show compE a.data.toList b.data.toList = natC a[0].toNat b[0].toNat by rw [hE]; simp)
      clear g1 g2 hE
      go_enter Tryz.func62, Tryz.ntmps62
      go_wp2_with fail
      go_fit (D1.out _)
      rintro e w1 ⟨rfl, rfl⟩
      go_wp2_with fail
      go_fit (D2.out _)
      rintro e w1 ⟨rfl, rfl⟩
      go_wp2_with fail
      go_region_with (go_at_call 82; refine (C.out _).mono ?_; rintro e w' ⟨rfl, rfl⟩)
      all_goals
        go_wp2_with fail
        go_ret
        exact ⟨by rw [HF.out]; rfl, (BelowD.refl _).drew⟩
    · rw [g2] at D2 hE
      have HF := Lib.hid (show compE a.data.toList b.data.toList = runsI a.data.toList b.data.toList by rw [hE]; simp)
      clear g1 g2 hE
      go_enter Tryz.func62, Tryz.ntmps62
      go_wp2_with fail
      go_fit (D1.out _)
      rintro e w1 ⟨rfl, rfl⟩
      go_wp2_with fail
      go_fit (D2.out _)
      rintro e w1 ⟨rfl, rfl⟩
      go_wp2_with fail
      go_fit (R.out _)
      rintro e w1 ⟨rfl, hb⟩
      have B := Lib.hid hb
      clear hb
      go_wp2_with fail
      go_ret
      exact ⟨by rw [HF.out]; rfl, B.out⟩

def strLen : Value → Nat
  | .string s => s.size
  | _ => 0
theorem empty_iff (s : ByteArray) : s.toList.isEmpty = decide (s.size = 0) := by
  rw [Lib.toList_data, ← listS_len]
  cases s.data.toList <;> simp
theorem firstL_len (s : ByteArray) (h : 0 < s.size) : 1 ≤ (firstL s.data.toList).length ∧ (firstL s.data.toList).length ≤ s.size := by
  unfold firstL
  rw [List.length_take, listS_len]
  omega
theorem cmp_stepB (x y : ByteArray) (hx : 0 < x.size) (hy : 0 < y.size) : cmpL x.data.toList y.data.toList = if firstL x.data.toList = firstL y.data.toList then cmpL (x.data.toList.drop (firstL x.data.toList).length) (y.data.toList.drop (firstL y.data.toList).length) else compE (firstL x.data.toList) (firstL y.data.toList) := by
  rw [head_list x hx, head_list y hy]
  exact cmp_step _ _ _ _
theorem ext_drop (s : ByteArray) (n : Nat) : (s.extract n s.size).data.toList = s.data.toList.drop n := by
  rw [extract_mk]
  have : s.data.toList.take s.size = s.data.toList := List.take_of_length_le (by rw [listS_len]; exact Nat.le_refl _)
  rw [this]

theorem ext_size (s : ByteArray) (n : Nat) (_h : n ≤ s.size) : (s.extract n s.size).size = s.size - n := by
  rw [← listS_len, ext_drop, List.length_drop, listS_len]

set_option maxHeartbeats 4000000 in
set_option maxRecDepth 100000 in
theorem idCompareD_any (a b : ByteArray) (ha : a.size ≤ 1099511627776) (hb : b.size ≤ 1099511627776) (w : World) :
    Calls Tryz.prog 43 #[.string a, .string b] w fun e w' => e = .returned (.int .i64 (cmpL a.data.toList b.data.toList)) ∧ BelowD w w' := by
  go_enter Tryz.func43, Tryz.ntmps43
  go_wp2_with fail
  go_loopw [0, 1] (fun s0 s1 wr => ∃ x y : ByteArray, s0 = .string x ∧ s1 = .string y ∧ x.size ≤ a.size ∧ y.size ≤ b.size ∧ Hid (cmpL a.data.toList b.data.toList = cmpL x.data.toList y.data.toList) ∧ Hid (BelowD w wr)) (fun s0 _ _ => strLen s0)
  case atStart => exact ⟨a, b, rfl, rfl, Nat.le_refl _, Nat.le_refl _, Lib.hid rfl, Lib.hid (BelowD.refl _)⟩
  case round =>
    obtain ⟨x, y, rfl, rfl, hx, hy, HC, HB⟩ := hrel
    have ex := empty_iff x
    have ey := empty_iff y
    by_cases h0 : 0 < x.size ∧ 0 < y.size
    · obtain ⟨hx0, hy0⟩ := h0
      rw [decide_eq_false (by omega)] at ex ey
      have F1 := Lib.hid (fun w => first_any x (by omega) hx0 w)
      have F2 := Lib.hid (fun w => first_any y (by omega) hy0 w)
      have hst := cmp_stepB x y hx0 hy0
      obtain ⟨l1, l2⟩ := firstL_len x hx0
      obtain ⟨m1, m2⟩ := firstL_len y hy0
      have z1 : (⟨(firstL x.data.toList).toArray⟩ : ByteArray).size = (firstL x.data.toList).length := mkS_size _
      have z2 : (⟨(firstL y.data.toList).toArray⟩ : ByteArray).size = (firstL y.data.toList).length := mkS_size _
      have d1 : (⟨(firstL x.data.toList).toArray⟩ : ByteArray).data.toList = firstL x.data.toList := by simp
      have d2 : (⟨(firstL y.data.toList).toArray⟩ : ByteArray).data.toList = firstL y.data.toList := by simp
      generalize (⟨(firstL x.data.toList).toArray⟩ : ByteArray) = fx at F1 z1 d1
      generalize (⟨(firstL y.data.toList).toArray⟩ : ByteArray) = fy at F2 z2 d2
      rw [← z1] at l1 l2
      rw [← z2] at m1 m2
      rw [← z1, ← z2, ← d1, ← d2] at hst
      have E := Lib.hid (fun w => cmpEl_any fx fy (by omega) (by omega) (by omega) (by omega) w)
      by_cases he : fx.data.toList = fy.data.toList
      · have HN := Lib.hid (HC.out.trans (hst.trans (if_pos he)))
        have g1 : (fx.toList == fy.toList) = true := by rw [Lib.toList_data, Lib.toList_data, he]; simp
        clear hst he z1 z2 d1 d2
        go_wp2_with fail
        go_fit (F1.out _)
        rintro e w1 ⟨rfl, rfl⟩
        go_wp2_with fail
        go_fit (F2.out _)
        rintro e w1 ⟨rfl, rfl⟩
        go_wp2_with fail
        go_region
        go_wp2_with fail
        exact ⟨⟨_, _, rfl, rfl, by rw [ext_size _ _ l2]; omega, by rw [ext_size _ _ m2]; omega, Lib.hid (by rw [ext_drop, ext_drop]; exact HN.out), Lib.hid HB.out.drew⟩, by show (x.extract fx.size x.size).size < x.size; rw [ext_size _ _ l2]; omega⟩
      · have HN := Lib.hid (HC.out.trans (hst.trans (if_neg he)))
        have g1 : (fx.toList == fy.toList) = false := by rw [Lib.toList_data, Lib.toList_data, beq_eq_false_iff_ne]; exact he
        clear hst he z1 z2 d1 d2
        go_wp2_with fail
        go_fit (F1.out _)
        rintro e w1 ⟨rfl, rfl⟩
        go_wp2_with fail
        go_fit (F2.out _)
        rintro e w1 ⟨rfl, rfl⟩
        go_wp2_with fail
        go_fit (E.out _)
        rintro e w1 ⟨rfl, hb⟩
        have B := Lib.hid (HB.out.trans hb)
        clear hb
        go_wp2_with fail
        go_ret
        exact ⟨by rw [HN.out]; rfl, B.out⟩
    · have HE := Lib.hid (HC.out.trans (cmp_end x.data.toList y.data.toList (by
        by_cases h : x.size = 0
        · left; exact List.eq_nil_of_length_eq_zero (by rw [listS_len]; exact h)
        · right; exact List.eq_nil_of_length_eq_zero (by rw [listS_len]; omega))))
      have C := Lib.hid (fun w => Tryz.cmp_Compare_int (x.size : Int) (y.size : Int) w)
      rw [cmpInt_nat] at C
      rw [listS_len, listS_len] at HE
      generalize natC x.size y.size = r at C HE
      by_cases h : x.size = 0
      · rw [decide_eq_true h] at ex
        clear ey h0 h
        go_wp2_with fail
        go_fit (C.out _)
        rintro e w1 ⟨rfl, rfl⟩
        go_wp2_with fail
        go_ret
        exact ⟨by rw [HE.out]; rfl, HB.out⟩
      · rw [decide_eq_false h] at ex
        rw [decide_eq_true (show y.size = 0 by omega)] at ey
        clear h0 h
        go_wp2_with fail
        go_fit (C.out _)
        rintro e w1 ⟨rfl, rfl⟩
        go_wp2_with fail
        go_ret
        exact ⟨by rw [HE.out]; rfl, HB.out⟩
theorem idCompare_any (a b : ByteArray) (ha : a.size ≤ 1099511627776) (hb : b.size ≤ 1099511627776) (w : World) :
    Calls Tryz.prog 43 #[.string a, .string b] w fun e w' => e = .returned (.int .i64 (cmpL a.data.toList b.data.toList)) ∧ Below w.heap.size w w' :=
  (idCompareD_any a b ha hb w).mono fun _ _ ⟨h1, h2⟩ => ⟨h1, h2.1⟩
end Go.Proofs.YtmjikddceegloaaGreatDoor
