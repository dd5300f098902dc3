/- Contracts of functions of the program, and what they are made of (parser; Pk08). -/
import Derived.Test.YtjehhldboopocaaGreatDoorPk07
import Derived.Deep.RegionWith
import Derived.Deep.DeepCutAuto
import Derived.Deep.CutBlock
import Derived.Deep.RegionHeld3
namespace Go.Proofs.YtjehhldboopocaaGreatDoor
open Go.RowKit Go.Lib
def compE : List UInt8 → List UInt8 → Int
  | x :: r, y :: t => if (dg x && dg y) = true then runsI (x :: r) (y :: t) else natC x.toNat y.toNat
  | _, _ => 0
theorem compE_cons (x y : UInt8) (r t : List UInt8) : compE (x :: r) (y :: t) = if (dg x && dg y) = true then runsI (x :: r) (y :: t) else natC x.toNat y.toNat := rfl
theorem natC_ite (x y : Nat) (r : Int) (h : x ≠ y) : (if x < y then -1 else if y < x then 1 else r) = natC x y := by
  unfold natC
  rcases Nat.lt_or_gt_of_ne h with g | g
  · simp [g]
  · simp [g, Nat.not_lt.2 (Nat.le_of_lt g)]
theorem firstL_dg {x : UInt8} {a : List UInt8} (h : dg x = true) : firstL (x :: a) = x :: a.takeWhile dg ∧ (x :: a).drop (firstL (x :: a)).length = a.dropWhile dg := by
  have h1 : firstL (x :: a) = x :: a.takeWhile dg := by
    unfold firstL
    rw [List.takeWhile_cons, if_pos h, List.length_cons, Nat.max_eq_left (by omega), List.take_succ_cons, take_tw]
  refine ⟨h1, ?_⟩
  rw [h1, List.length_cons, List.drop_succ_cons, drop_tw]
theorem firstL_no {x : UInt8} {a : List UInt8} (h : dg x = false) : firstL (x :: a) = [x] ∧ (x :: a).drop (firstL (x :: a)).length = a := by
  have h1 : firstL (x :: a) = [x] := by
    unfold firstL
    rw [List.takeWhile_cons, if_neg (by rw [h]; decide)]
    simp
  refine ⟨h1, ?_⟩
  rw [h1]; rfl
theorem runs_zero {e f : List UInt8} : runsI e f = 0 ↔ e = f := by
  rw [runs_key, (lexC_tot natC_tot).eq]
  exact ⟨runK_inj, fun h => by rw [h]⟩
theorem cmp_step (x y : UInt8) (a b : List UInt8) : cmpL (x :: a) (y :: b) = if firstL (x :: a) = firstL (y :: b) then cmpL ((x :: a).drop (firstL (x :: a)).length) ((y :: b).drop (firstL (y :: b)).length) else compE (firstL (x :: a)) (firstL (y :: b)) := by
  rw [cmpL]
  cases hx : dg x <;> cases hy : dg y
  · obtain ⟨f1, d1⟩ := firstL_no (a := a) hx
    obtain ⟨f2, d2⟩ := firstL_no (a := b) hy
    rw [d1, d2, f1, f2, if_neg (by simp)]
    by_cases h : x = y
    · subst h; simp
    · have hn : x.toNat ≠ y.toNat := fun e => h (UInt8.toNat_inj.1 e)
      rw [if_neg (show ¬ [x] = [y] from fun e => h (List.cons.inj e).1), compE_cons, hx, hy, natC_ite _ _ _ hn]
      rfl
  · obtain ⟨f1, d1⟩ := firstL_no (a := a) hx
    obtain ⟨f2, d2⟩ := firstL_dg (a := b) hy
    have h : x ≠ y := fun e => by subst e; rw [hx] at hy; cases hy
    have hn : x.toNat ≠ y.toNat := fun e => h (UInt8.toNat_inj.1 e)
    rw [d1, d2, f1, f2, if_neg (by simp), if_neg (fun e => h (List.cons.inj e).1)]
    rw [compE_cons, hx, hy, natC_ite _ _ _ hn]
    rfl
  · obtain ⟨f1, d1⟩ := firstL_dg (a := a) hx
    obtain ⟨f2, d2⟩ := firstL_no (a := b) hy
    have h : x ≠ y := fun e => by subst e; rw [hx] at hy; cases hy
    have hn : x.toNat ≠ y.toNat := fun e => h (UInt8.toNat_inj.1 e)
    rw [d1, d2, f1, f2, if_neg (by simp), if_neg (fun e => h (List.cons.inj e).1)]
    rw [compE_cons, hx, hy, natC_ite _ _ _ hn]
    rfl
  · obtain ⟨f1, d1⟩ := firstL_dg (a := a) hx
    obtain ⟨f2, d2⟩ := firstL_dg (a := b) hy
    rw [d1, d2, f1, f2, if_pos (by simp)]
    rw [compE_cons, hx, hy]
    by_cases h : x :: a.takeWhile dg = y :: b.takeWhile dg
    · rw [if_pos h, if_neg (fun e => e (runs_zero.2 h))]
    · rw [if_neg h, if_pos (fun e => h (runs_zero.1 e))]
      rfl
theorem cmp_end : ∀ (l m : List UInt8), (l = [] ∨ m = []) → cmpL l m = natC l.length m.length
  | [], [], _ => by rw [cmpL]; simp [natC]
  | [], _ :: _, _ => by rw [cmpL]; simp [natC]
  | _ :: _, [], _ => by rw [cmpL]; simp [natC]
  | _ :: _, _ :: _, h => by simp at h
theorem head_list (s : ByteArray) (h : 0 < s.size) : s.data.toList = s[0] :: s.data.toList.drop 1 := by
  have := List.drop_eq_getElem_cons (l := s.data.toList) (i := 0) (by rw [listS_len]; exact h)
  rw [List.drop_zero] at this
  exact this

set_option maxHeartbeats 1000000 in
theorem cmpEl_any (a b : ByteArray) (ha : a.size ≤ 140737488351232) (hb : b.size ≤ 140737488351232) (h0 : 0 < a.size) (h1 : 0 < b.size) (w : World) :
    Calls Tryz.prog 154 #[.string a, .string b] w fun e w' => e = .returned (.int .i64 (compE a.data.toList b.data.toList)) ∧ BelowD w w' := by
  have R := Lib.hid (fun w => cmpRuns_any a b ha hb w)
  have D1 := Lib.hid (fun w => idDigit_any a[0].toNat a[0].toNat_lt w)
  have D2 := Lib.hid (fun w => idDigit_any b[0].toNat b[0].toNat_lt w)
  have C := Lib.hid (fun w => cmpB_any a[0].toNat b[0].toNat w)
  have hE : compE a.data.toList b.data.toList = if (dg a[0] && dg b[0]) = true then runsI a.data.toList b.data.toList else natC a[0].toNat b[0].toNat := by
    have e1 := head_list a h0
    have e2 := head_list b h1
    have h := show compE (a[0] :: a.data.toList.drop 1) (b[0] :: b.data.toList.drop 1) = if (dg a[0] && dg b[0]) = true then runsI (a[0] :: a.data.toList.drop 1) (b[0] :: b.data.toList.drop 1) else natC a[0].toNat b[0].toNat from rfl
    rwa [← e1, ← e2] at h
  rw [show dg a[0] = digB a[0].toNat from rfl, show dg b[0] = digB b[0].toNat from rfl] at hE
  cases g1 : digB a[0].toNat
  · rw [g1] at D1 hE
    have HF := Lib.hid (show compE a.data.toList b.data.toList = natC a[0].toNat b[0].toNat by rw [hE]; simp)
    clear g1 hE
    go_enter Tryz.func154, Tryz.ntmps154
    go_wp2_with fail
    go_fit (D1.out _)
    rintro e w1 ⟨rfl, rfl⟩
    go_wp2_with fail
    go_region_with (go_at_call 186; refine (C.out _).mono ?_; rintro e w' ⟨rfl, rfl⟩)
    all_goals
      go_wp2_with fail
      go_ret
      exact ⟨by rw [HF.out]; rfl, (BelowD.refl _).drew⟩
  · rw [g1] at D1 hE
    cases g2 : digB b[0].toNat
    · rw [g2] at D2 hE
      have HF := Lib.hid (show compE a.data.toList b.data.toList = natC a[0].toNat b[0].toNat by rw [hE]; simp)
      clear g1 g2 hE
      go_enter Tryz.func154, Tryz.ntmps154
      go_wp2_with fail
      go_fit (D1.out _)
      rintro e w1 ⟨rfl, rfl⟩
      go_wp2_with fail
      go_fit (D2.out _)
      rintro e w1 ⟨rfl, rfl⟩
      go_wp2_with fail
      go_region_with (go_at_call 186; refine (C.out _).mono ?_; rintro e w' ⟨rfl, rfl⟩)
      all_goals
        go_wp2_with fail
        go_ret
        exact ⟨by rw [HF.out]; rfl, (BelowD.refl _).drew⟩
    · rw [g2] at D2 hE
      have HF := Lib.hid (show compE a.data.toList b.data.toList = runsI a.data.toList b.data.toList by rw [hE]; simp)
      clear g1 g2 hE
      go_enter Tryz.func154, Tryz.ntmps154
      go_wp2_with fail
      go_fit (D1.out _)
      rintro e w1 ⟨rfl, rfl⟩
      go_wp2_with fail
      go_fit (D2.out _)
      rintro e w1 ⟨rfl, rfl⟩
      go_wp2_with fail
      go_fit (R.out _)
      rintro e w1 ⟨rfl, hb⟩
      have B := Lib.hid hb
      clear hb
      go_wp2_with fail
      go_ret
      exact ⟨by rw [HF.out]; rfl, B.out⟩

def strLen : Value → Nat
  | .string s => s.size
  | _ => 0
theorem empty_iff (s : ByteArray) : s.toList.isEmpty = decide (s.size = 0) := by
  rw [Lib.toList_data, ← listS_len]
  cases s.data.toList <;> simp
theorem firstL_len (s : ByteArray) (h : 0 < s.size) : 1 ≤ (firstL s.data.toList).length ∧ (firstL s.data.toList).length ≤ s.size := by
  unfold firstL
  rw [List.length_take, listS_len]
  omega
theorem cmp_stepB (x y : ByteArray) (hx : 0 < x.size) (hy : 0 < y.size) : cmpL x.data.toList y.data.toList = if firstL x.data.toList = firstL y.data.toList then cmpL (x.data.toList.drop (firstL x.data.toList).length) (y.data.toList.drop (firstL y.data.toList).length) else compE (firstL x.data.toList) (firstL y.data.toList) := by
  rw [head_list x hx, head_list y hy]
  exact cmp_step _ _ _ _
theorem ext_drop (s : ByteArray) (n : Nat) : (s.extract n s.size).data.toList = s.data.toList.drop n := by
  rw [extract_mk]
  have : s.data.toList.take s.size = s.data.toList := List.take_of_length_le (by rw [listS_len]; exact Nat.le_refl _)
  rw [this]

theorem ext_size (s : ByteArray) (n : Nat) (_h : n ≤ s.size) : (s.extract n s.size).size = s.size - n := by
  rw [← listS_len, ext_drop, List.length_drop, listS_len]

set_option maxHeartbeats 4000000 in
set_option maxRecDepth 100000 in
theorem idCompareD_any (a b : ByteArray) (ha : a.size ≤ 140737488351232) (hb : b.size ≤ 140737488351232) (w : World) :
    Calls Tryz.prog 115 #[.string a, .string b] w fun e w' => e = .returned (.int .i64 (cmpL a.data.toList b.data.toList)) ∧ BelowD w w' := by
  go_enter Tryz.func115, Tryz.ntmps115
  go_wp2_with fail
  go_loopw [0, 1] (fun s0 s1 wr => ∃ x y : ByteArray, s0 = .string x ∧ s1 = .string y ∧ x.size ≤ a.size ∧ y.size ≤ b.size ∧ Hid (cmpL a.data.toList b.data.toList = cmpL x.data.toList y.data.toList) ∧ Hid (BelowD w wr)) (fun s0 _ _ => strLen s0)
  case atStart => exact ⟨a, b, rfl, rfl, Nat.le_refl _, Nat.le_refl _, Lib.hid rfl, Lib.hid (BelowD.refl _)⟩
  case round =>
    obtain ⟨x, y, rfl, rfl, hx, hy, HC, HB⟩ := hrel
    have ex := empty_iff x
    have ey := empty_iff y
    by_cases h0 : 0 < x.size ∧ 0 < y.size
    · obtain ⟨hx0, hy0⟩ := h0
      rw [decide_eq_false (by omega)] at ex ey
      have F1 := Lib.hid (fun w => first_any x (by omega) hx0 w)
      have F2 := Lib.hid (fun w => first_any y (by omega) hy0 w)
      have hst := cmp_stepB x y hx0 hy0
      obtain ⟨l1, l2⟩ := firstL_len x hx0
      obtain ⟨m1, m2⟩ := firstL_len y hy0
      have z1 : (⟨(firstL x.data.toList).toArray⟩ : ByteArray).size = (firstL x.data.toList).length := mkS_size _
      have z2 : (⟨(firstL y.data.toList).toArray⟩ : ByteArray).size = (firstL y.data.toList).length := mkS_size _
      have d1 : (⟨(firstL x.data.toList).toArray⟩ : ByteArray).data.toList = firstL x.data.toList := by simp
      have d2 : (⟨(firstL y.data.toList).toArray⟩ : ByteArray).data.toList = firstL y.data.toList := by simp
      generalize (⟨(firstL x.data.toList).toArray⟩ : ByteArray) = fx at F1 z1 d1
      generalize (⟨(firstL y.data.toList).toArray⟩ : ByteArray) = fy at F2 z2 d2
      rw [← z1] at l1 l2
      rw [← z2] at m1 m2
      rw [← z1, ← z2, ← d1, ← d2] at hst
      have E := Lib.hid (fun w => cmpEl_any fx fy (by omega) (by omega) (by omega) (by omega) w)
      by_cases he : fx.data.toList = fy.data.toList
      · have HN := Lib.hid (HC.out.trans (hst.trans (if_pos he)))
        have g1 : (fx.toList == fy.toList) = true := by rw [Lib.toList_data, Lib.toList_data, he]; simp
        clear hst he z1 z2 d1 d2
        go_wp2_with fail
        go_fit (F1.out _)
        rintro e w1 ⟨rfl, rfl⟩
        go_wp2_with fail
        go_fit (F2.out _)
        rintro e w1 ⟨rfl, rfl⟩
        go_wp2_with fail
        go_region
        go_wp2_with fail
        exact ⟨⟨_, _, rfl, rfl, by rw [ext_size _ _ l2]; omega, by rw [ext_size _ _ m2]; omega, Lib.hid (by rw [ext_drop, ext_drop]; exact HN.out), Lib.hid HB.out.drew⟩, by show (x.extract fx.size x.size).size < x.size; rw [ext_size _ _ l2]; omega⟩
      · have HN := Lib.hid (HC.out.trans (hst.trans (if_neg he)))
        have g1 : (fx.toList == fy.toList) = false := by rw [Lib.toList_data, Lib.toList_data, beq_eq_false_iff_ne]; exact he
        clear hst he z1 z2 d1 d2
        go_wp2_with fail
        go_fit (F1.out _)
        rintro e w1 ⟨rfl, rfl⟩
        go_wp2_with fail
        go_fit (F2.out _)
        rintro e w1 ⟨rfl, rfl⟩
        go_wp2_with fail
        go_fit (E.out _)
        rintro e w1 ⟨rfl, hb⟩
        have B := Lib.hid (HB.out.trans hb)
        clear hb
        go_wp2_with fail
        go_ret
        exact ⟨by rw [HN.out]; rfl, B.out⟩
    · have HE := Lib.hid (HC.out.trans (cmp_end x.data.toList y.data.toList (by
        by_cases h : x.size = 0
        · left; exact List.eq_nil_of_length_eq_zero (by rw [listS_len]; exact h)
        · right; exact List.eq_nil_of_length_eq_zero (by rw [listS_len]; omega))))
      have C := Lib.hid (fun w => Tryz.cmp_Compare_int (x.size : Int) (y.size : Int) w)
      rw [cmpInt_nat] at C
      rw [listS_len, listS_len] at HE
      generalize natC x.size y.size = r at C HE
      by_cases h : x.size = 0
      · rw [decide_eq_true h] at ex
        clear ey h0 h
        go_wp2_with fail
        go_fit (C.out _)
        rintro e w1 ⟨rfl, rfl⟩
        go_wp2_with fail
        go_ret
        exact ⟨by rw [HE.out]; rfl, HB.out⟩
      · rw [decide_eq_false h] at ex
        rw [decide_eq_true (show y.size = 0 by omega)] at ey
        clear h0 h
        go_wp2_with fail
        go_fit (C.out _)
        rintro e w1 ⟨rfl, rfl⟩
        go_wp2_with fail
        go_ret
        exact ⟨by rw [HE.out]; rfl, HB.out⟩
theorem idCompare_any (a b : ByteArray) (ha : a.size ≤ 140737488351232) (hb : b.size ≤ 140737488351232) (w : World) :
    Calls Tryz.prog 115 #[.string a, .string b] w fun e w' => e = .returned (.int .i64 (cmpL a.data.toList b.data.toList)) ∧ Below w.heap.size w w' :=
  (idCompareD_any a b ha hb w).mono fun _ _ ⟨h1, h2⟩ => ⟨h1, h2.1⟩
end Go.Proofs.YtjehhldboopocaaGreatDoor
namespace Go.Proofs.YtjehhldboopocaaGreatDoor
open Go.RowKit Go.Lib
theorem asc_drew {W w1 : World} {b o p : Nat} {x y : Value} (h : w1.cell? ⟨b, o, none⟩ = some x ∧ w1.cell? ⟨b, p, none⟩ = some y ∧ W.heap.size ≤ w1.heap.size ∧ Below W.heap.size W w1) :
    w1.drew.cell? ⟨b, o, none⟩ = some x ∧ w1.drew.cell? ⟨b, p, none⟩ = some y ∧ W.heap.size ≤ w1.drew.heap.size ∧ Below W.heap.size W w1.drew :=
  ⟨h.1, h.2.1, h.2.2.1, h.2.2.2.drew⟩
theorem asc_step {W w1 w2 : World} {b o p : Nat} {x y : Value} (hb : b < W.heap.size) (h : w1.cell? ⟨b, o, none⟩ = some x ∧ w1.cell? ⟨b, p, none⟩ = some y ∧ W.heap.size ≤ w1.heap.size ∧ Below W.heap.size W w1) (h2 : Below w1.heap.size w1 w2) :
    w2.cell? ⟨b, o, none⟩ = some x ∧ w2.cell? ⟨b, p, none⟩ = some y ∧ W.heap.size ≤ w2.heap.size ∧ Below W.heap.size W w2 :=
  ⟨(h2.cell (p := ⟨b, o, none⟩) (Nat.lt_of_lt_of_le hb h.2.2.1)).trans h.1, (h2.cell (p := ⟨b, p, none⟩) (Nat.lt_of_lt_of_le hb h.2.2.1)).trans h.2.1, Nat.le_trans h.2.2.1 h2.size, h.2.2.2.trans (h2.mono h.2.2.1)⟩
theorem asc_below {W w1 : World} {b o p : Nat} {x y : Value} (h : w1.cell? ⟨b, o, none⟩ = some x ∧ w1.cell? ⟨b, p, none⟩ = some y ∧ W.heap.size ≤ w1.heap.size ∧ Below W.heap.size W w1) : Below W.heap.size W w1 := h.2.2.2

set_option maxHeartbeats 4000000 in
set_option maxRecDepth 100000 in
theorem idAscending_any (v : Option Addr) (cap : Nat) (L : List (List UInt8)) (hl : L.length ≤ 9223372036854775000) (hsz : ∀ x, x ∈ L → x.length ≤ 140737488351232) (w : World) (hr : ReadsStr w v L) :
    Calls Tryz.prog 209 #[.slice v L.length cap] w fun e w' => e = .returned (.bool (ascB L)) ∧ Below w.heap.size w w' := by
  have HR := Lib.hid hr
  have HSZ := Lib.hid hsz
  clear hr hsz
  go_enter Tryz.func209, Tryz.ntmps209
  go_wp2_with fail
  go_loopw [3] (fun s3 wr => ∃ j : Nat, j ≤ L.length ∧ s3 = .int .i64 ((j : Int) + 1) ∧ Hid (ascB L = ascB (L.drop j)) ∧ Hid (Below w.heap.size w wr)) (fun s3 _ => L.length + 1 - (RowKit.intOf s3).toNat)
  case atStart => exact ⟨0, by omega, rfl, Lib.hid (by rw [List.drop_zero]), Lib.hid (Below.refl _ _)⟩
  case round =>
    obtain ⟨j, hj, rfl, HE, HB⟩ := hrel
    by_cases hlt : j + 1 < L.length
    · obtain ⟨b, off, rfl, g2, g3⟩ := HR.out j (by omega)
      obtain ⟨b', off', e', f2, f3⟩ := HR.out (j + 1) hlt
      injection e' with e'
      injection e' with e1 e2 _
      subst e1 e2
      have hst := ascB_step hlt
      have hx9 := HSZ.out _ (List.getElem_mem (show j < L.length by omega))
      have hy9 := HSZ.out _ (List.getElem_mem hlt)
      obtain ⟨x, hx⟩ : ∃ x, x = L[j]'(by omega) := ⟨_, rfl⟩
      obtain ⟨y, hy⟩ : ∃ y, y = L[j + 1] := ⟨_, rfl⟩
      rw [← hx] at g3 hst hx9
      rw [← hy] at f3 hst hy9
      have C := fun w => idCompare_any ⟨x.toArray⟩ ⟨y.toArray⟩ (by rw [mkS_size]; exact hx9) (by rw [mkS_size]; exact hy9) w
      rw [show (⟨x.toArray⟩ : ByteArray).data.toList = x from rfl, show (⟨y.toArray⟩ : ByteArray).data.toList = y from rfl] at C
      obtain ⟨sx, hsx⟩ : ∃ s : ByteArray, s = ⟨x.toArray⟩ := ⟨_, rfl⟩
      obtain ⟨sy, hsy⟩ : ∃ s : ByteArray, s = ⟨y.toArray⟩ := ⟨_, rfl⟩
      rw [← hsx] at g3 C
      rw [← hsy] at f3 C
      obtain ⟨c, hc⟩ : ∃ c, c = cmpL x y := ⟨_, rfl⟩
      rw [← hc] at C hst
      have C := Lib.hid C
      have HST := Lib.hid hst
      have q1 : (0 : Int) ≤ (j : Int) ∧ (j : Int) + 1 < (L.length : Int) := by omega
      have q2 : IntKind.i64.wrap ((j : Int) + 1 - 1) = (j : Int) := by rw [IntWalk.i64_in _ (by omega)]; omega
      have q5 : IntKind.i64.wrap (j : Int) = (j : Int) := IntWalk.i64_in _ (by omega)
      have q3 : ((j : Int) + 1).toNat = j + 1 := by omega
      have q4 : (0 : Int) ≤ (j : Int) + 1 := by omega
      have a0 : (0 : Int) ≤ (j : Int) := by omega
      have a1 : (j : Int) < (L.length : Int) := by omega
      have a2 : (j : Int) + 1 < (L.length : Int) := by omega
      have a4 : j < L.length := by omega
      have hs0 : wr.cell? ⟨b, off + j, none⟩ = some (.string sx) ∧ wr.cell? ⟨b, off + (j + 1), none⟩ = some (.string sy) ∧ w.heap.size ≤ wr.heap.size ∧ Below w.heap.size w wr :=
        ⟨(HB.out.cell (p := ⟨b, off + j, none⟩) g2).trans g3, (HB.out.cell (p := ⟨b, off + (j + 1), none⟩) g2).trans f3, HB.out.size, HB.out⟩
      have HG := Lib.hid g2
      clear hst hx hy hsx hsy hc hx9 hy9 g2 g3 f2 f3
      go_upto_region 4 with fail
      go_region_held3 (fun w' => w'.cell? ⟨b, off + j, none⟩ = some (.string sx) ∧ w'.cell? ⟨b, off + (j + 1), none⟩ = some (.string sy) ∧ w.heap.size ≤ w'.heap.size ∧ Below w.heap.size w w') (first | exact asc_drew hs0 | exact asc_step HG.out (by assumption) (by assumption)) (first
        | (go_at_call 115; go_fit (C.out _); rintro e w2 ⟨rfl, hb2⟩))
      have HS := Lib.hid (asc_below (b := b) (o := off + j) (p := off + (j + 1)) (x := .string sx) (y := .string sy) (by assumption))
      clear q2 q3 q4 q5
      by_cases hc0 : c < 0
      · have HN := Lib.hid (show ascB L = ascB (L.drop (j + 1)) by rw [HE.out, HST.out, decide_eq_true hc0]; rfl)
        have u1 : ¬ (0 : Int) ≤ c := by omega
        go_wp2_with fail
        exact ⟨⟨j + 1, by omega, by go_num, HN, HS⟩, by simp [RowKit.intOf]; omega⟩
      · have HN := Lib.hid (show ascB L = false by rw [HE.out, HST.out, decide_eq_false hc0]; rfl)
        have u1 : (0 : Int) ≤ c := by omega
        go_wp2_with fail
        go_ret
        exact ⟨by rw [HN.out]; rfl, HS.out⟩
    · have HN := Lib.hid (show ascB L = true by rw [HE.out]; exact ascB_end (by omega))
      go_wp2_with fail
      go_ret
      exact ⟨by rw [HN.out]; rfl, HB.out⟩
end Go.Proofs.YtjehhldboopocaaGreatDoor
namespace Go.Proofs.YtjehhldboopocaaGreatDoor
open Go.RowKit Go.Lib
/-- The five tests on fields. -/
def fiveB (t : Bool) (i : Int) (s : ByteArray) (n kn : Nat) : Bool := !t && i == 0 && s.toList.isEmpty && n == 0 && kn == 0
theorem nat_zero (n : Nat) : ((n : Int) == 0) = (n == 0) := by
  by_cases h : n = 0
  · subst h; rfl
  · have : ¬ (n : Int) = 0 := by omega
    rw [beq_eq_false_iff_ne.2 this, beq_eq_false_iff_ne.2 h]

set_option maxHeartbeats 4000000 in
set_option maxRecDepth 100000 in
theorem own0 (t : Bool) (i : Int) (s : ByteArray) (av kv : Option Addr) (n c kn kc : Nat) (w : World) :
    Calls Tryz.prog 173 #[.agg #[.int .i64 0, .bool t, .int .i64 i, .string s, .slice av n c, .slice kv kn kc]] w fun e w' => e = .returned (.bool (fiveB t i s n kn)) ∧ Below w.heap.size w w' := by
  cases t
  all_goals
    go_enter Tryz.func173, Tryz.ntmps173
    go_wp2_with fail
    all_goals
      go_ret
      exact ⟨by simp_all [fiveB, nat_zero], by repeat (first | exact Below.refl _ _ | refine Below.setCell ?_ (by simp <;> omega) _ | refine Below.alloc ?_ (by simp <;> omega) _)⟩
set_option maxHeartbeats 4000000 in
set_option maxRecDepth 100000 in
theorem own1 (t : Bool) (i : Int) (s : ByteArray) (av kv : Option Addr) (n c kn kc : Nat) (w : World) :
    Calls Tryz.prog 173 #[.agg #[.int .i64 1, .bool t, .int .i64 i, .string s, .slice av n c, .slice kv kn kc]] w fun e w' => e = .returned (.bool (fiveB false i s n kn)) ∧ Below w.heap.size w w' := by
  cases t
  all_goals
    go_enter Tryz.func173, Tryz.ntmps173
    go_wp2_with fail
    all_goals
      go_ret
      exact ⟨by simp_all [fiveB, nat_zero], by repeat (first | exact Below.refl _ _ | refine Below.setCell ?_ (by simp <;> omega) _ | refine Below.alloc ?_ (by simp <;> omega) _)⟩
set_option maxHeartbeats 4000000 in
set_option maxRecDepth 100000 in
theorem own2 (t : Bool) (i : Int) (s : ByteArray) (av kv : Option Addr) (n c kn kc : Nat) (w : World) :
    Calls Tryz.prog 173 #[.agg #[.int .i64 2, .bool t, .int .i64 i, .string s, .slice av n c, .slice kv kn kc]] w fun e w' => e = .returned (.bool (fiveB t 0 s n kn)) ∧ Below w.heap.size w w' := by
  cases t
  all_goals
    go_enter Tryz.func173, Tryz.ntmps173
    go_wp2_with fail
    all_goals
      go_ret
      exact ⟨by simp_all [fiveB, nat_zero], by repeat (first | exact Below.refl _ _ | refine Below.setCell ?_ (by simp <;> omega) _ | refine Below.alloc ?_ (by simp <;> omega) _)⟩
set_option maxHeartbeats 4000000 in
set_option maxRecDepth 100000 in
theorem own3 (t : Bool) (i : Int) (s : ByteArray) (av kv : Option Addr) (n c kn kc : Nat) (w : World) :
    Calls Tryz.prog 173 #[.agg #[.int .i64 3, .bool t, .int .i64 i, .string s, .slice av n c, .slice kv kn kc]] w fun e w' => e = .returned (.bool (fiveB t i ⟨#[]⟩ n kn)) ∧ Below w.heap.size w w' := by
  cases t
  all_goals
    go_enter Tryz.func173, Tryz.ntmps173
    go_wp2_with fail
    all_goals
      go_ret
      exact ⟨by simp_all [fiveB, nat_zero], by repeat (first | exact Below.refl _ _ | refine Below.setCell ?_ (by simp <;> omega) _ | refine Below.alloc ?_ (by simp <;> omega) _)⟩
set_option maxHeartbeats 4000000 in
set_option maxRecDepth 100000 in
theorem own4 (t : Bool) (i : Int) (s : ByteArray) (av kv : Option Addr) (n c kn kc : Nat) (w : World) :
    Calls Tryz.prog 173 #[.agg #[.int .i64 4, .bool t, .int .i64 i, .string s, .slice av n c, .slice kv kn kc]] w fun e w' => e = .returned (.bool (fiveB t i s 0 kn)) ∧ Below w.heap.size w w' := by
  cases t
  all_goals
    go_enter Tryz.func173, Tryz.ntmps173
    go_wp2_with fail
    all_goals
      go_ret
      exact ⟨by simp_all [fiveB, nat_zero], by repeat (first | exact Below.refl _ _ | refine Below.setCell ?_ (by simp <;> omega) _ | refine Below.alloc ?_ (by simp <;> omega) _)⟩
set_option maxHeartbeats 4000000 in
set_option maxRecDepth 100000 in
theorem own5 (t : Bool) (i : Int) (s : ByteArray) (av kv : Option Addr) (n c kn kc : Nat) (w : World) :
    Calls Tryz.prog 173 #[.agg #[.int .i64 5, .bool t, .int .i64 i, .string s, .slice av n c, .slice kv kn kc]] w fun e w' => e = .returned (.bool (fiveB t i s 0 0)) ∧ Below w.heap.size w w' := by
  cases t
  all_goals
    go_enter Tryz.func173, Tryz.ntmps173
    go_wp2_with fail
    all_goals
      go_ret
      exact ⟨by simp_all [fiveB], by repeat (first | exact Below.refl _ _ | refine Below.setCell ?_ (by simp <;> omega) _ | refine Below.alloc ?_ (by simp <;> omega) _)⟩

set_option maxHeartbeats 4000000 in
set_option maxRecDepth 100000 in
theorem ownNo (k : Int) (h0 : k < 0 ∨ 5 < k) (t : Bool) (i : Int) (s : ByteArray) (av kv : Option Addr) (n c kn kc : Nat) (w : World) :
    Calls Tryz.prog 173 #[.agg #[.int .i64 k, .bool t, .int .i64 i, .string s, .slice av n c, .slice kv kn kc]] w fun e w' => e = .returned (.bool false) ∧ Below w.heap.size w w' := by
  have e0 : (k == 0) = false := by rw [beq_eq_false_iff_ne]; omega
  have e1 : (k == 1) = false := by rw [beq_eq_false_iff_ne]; omega
  have e2 : (k == 2) = false := by rw [beq_eq_false_iff_ne]; omega
  have e3 : (k == 3) = false := by rw [beq_eq_false_iff_ne]; omega
  have e4 : (k == 4) = false := by rw [beq_eq_false_iff_ne]; omega
  have e5 : (k == 5) = false := by rw [beq_eq_false_iff_ne]; omega
  clear h0
  go_enter Tryz.func173, Tryz.ntmps173
  go_wp2_with fail
  go_ret
  exact ⟨rfl, by repeat (first | exact Below.refl _ _ | refine Below.setCell ?_ (by simp <;> omega) _ | refine Below.alloc ?_ (by simp <;> omega) _)⟩

/-- Has a value one of the six kinds, and sets only fields of its kind? -/
def ownB (k : Int) (t : Bool) (i : Int) (s : ByteArray) (l : List Vl) (ks : List (List UInt8)) : Bool := !(decide (k < 0) || decide (5 < k) || !plainB k t i s l ks)
theorem isE {α : Type} (l : List α) : (l.length == 0) = l.isEmpty := by cases l <;> rfl
theorem own_any (k : Int) (t : Bool) (i : Int) (s : ByteArray) (av kv : Option Addr) (l : List Vl) (ks : List (List UInt8)) (c kc : Nat) (w : World) :
    Calls Tryz.prog 173 #[.agg #[.int .i64 k, .bool t, .int .i64 i, .string s, .slice av l.length c, .slice kv ks.length kc]] w fun e w' => e = .returned (.bool (ownB k t i s l ks)) ∧ Below w.heap.size w w' := by
  by_cases h : k < 0 ∨ 5 < k
  · have : ownB k t i s l ks = false := by unfold ownB; rcases h with h | h <;> simp [h]
    rw [this]
    exact ownNo k h t i s av kv l.length c ks.length kc w
  · have e : ownB k t i s l ks = plainB k t i s l ks := by
      unfold ownB
      rw [decide_eq_false (by omega), decide_eq_false (by omega)]
      simp
    rw [e]
    rcases (show k = 0 ∨ k = 1 ∨ k = 2 ∨ k = 3 ∨ k = 4 ∨ k = 5 by omega) with rfl | rfl | rfl | rfl | rfl | rfl
    · rw [show plainB 0 t i s l ks = fiveB t i s l.length ks.length by simp [plainB, fiveB, isE, Bool.and_assoc]]
      exact own0 t i s av kv l.length c ks.length kc w
    · rw [show plainB 1 t i s l ks = fiveB false i s l.length ks.length by simp [plainB, fiveB, isE, Bool.and_assoc]]
      exact own1 t i s av kv l.length c ks.length kc w
    · rw [show plainB 2 t i s l ks = fiveB t 0 s l.length ks.length by simp [plainB, fiveB, isE, Bool.and_assoc]]
      exact own2 t i s av kv l.length c ks.length kc w
    · rw [show plainB 3 t i s l ks = fiveB t i ⟨#[]⟩ l.length ks.length by simp [plainB, fiveB, isE, Bool.and_assoc]]
      exact own3 t i s av kv l.length c ks.length kc w
    · rw [show plainB 4 t i s l ks = fiveB t i s 0 ks.length by simp [plainB, fiveB, isE, Bool.and_assoc]]
      exact own4 t i s av kv l.length c ks.length kc w
    · rw [show plainB 5 t i s l ks = fiveB t i s 0 0 by simp [plainB, fiveB, Bool.and_assoc]]
      exact own5 t i s av kv l.length c ks.length kc w
end Go.Proofs.YtjehhldboopocaaGreatDoor
namespace Go.Proofs.YtjehhldboopocaaGreatDoor
open Go.RowKit Go.Lib
theorem compound_any (k : Int) (t : Bool) (i : Int) (s : ByteArray) (av kv : Option Addr) (n c kn kc : Nat) (w : World) :
    Calls Tryz.prog 175 #[.agg #[.int .i64 k, .bool t, .int .i64 i, .string s, .slice av n c, .slice kv kn kc]] w fun e w' => e = .returned (.bool (k == 4 || k == 5)) ∧ Below w.heap.size w w' := by
  go_enter Tryz.func175, Tryz.ntmps175
  go_wp2_with fail
  all_goals
    go_ret
    exact ⟨by simp_all, by repeat (first | exact Below.refl _ _ | refine Below.setCell ?_ (by simp <;> omega) _ | refine Below.alloc ?_ (by simp <;> omega) _)⟩

theorem keyB_str (s : ByteArray) : keyB s.data.toList = (decide (1 ≤ s.size) && decide (s.size ≤ 64)) := by
  unfold keyB
  rw [listS_len]
theorem notKey_any (s : ByteArray) (w : World) :
    Calls Tryz.prog 208 #[.string s] w fun e w' => e = .returned (.bool (!keyB s.data.toList)) ∧ Below w.heap.size w w' := by
  have hk := Lib.hid (keyB_str s)
  have h1 : s.toList.isEmpty = decide (s.size = 0) := empty_iff s
  by_cases h0 : s.size = 0
  · rw [decide_eq_true h0] at h1
    have H := Lib.hid h0
    clear h0
    go_enter Tryz.func208, Tryz.ntmps208
    go_wp2_with fail
    go_ret
    exact ⟨by rw [hk.out, H.out]; rfl, by repeat (first | exact Below.refl _ _ | refine Below.setCell ?_ (by simp <;> omega) _ | refine Below.alloc ?_ (by simp <;> omega) _)⟩
  · rw [decide_eq_false h0] at h1
    by_cases h2 : s.size ≤ 64
    · have g : ¬ (64 : Int) < (s.size : Int) := by omega
      have H := Lib.hid (show keyB s.data.toList = true by rw [hk.out, decide_eq_true (by omega), decide_eq_true h2]; rfl)
      clear h0 h2
      go_enter Tryz.func208, Tryz.ntmps208
      go_wp2_with fail
      go_ret
      exact ⟨by rw [H.out]; simp, by repeat (first | exact Below.refl _ _ | refine Below.setCell ?_ (by simp <;> omega) _ | refine Below.alloc ?_ (by simp <;> omega) _)⟩
    · have g : (64 : Int) < (s.size : Int) := by omega
      have H := Lib.hid (show keyB s.data.toList = false by rw [hk.out, decide_eq_false h2, Bool.and_false])
      clear h0 h2
      go_enter Tryz.func208, Tryz.ntmps208
      go_wp2_with fail
      go_ret
      exact ⟨by rw [H.out]; simp, by repeat (first | exact Below.refl _ _ | refine Below.setCell ?_ (by simp <;> omega) _ | refine Below.alloc ?_ (by simp <;> omega) _)⟩

set_option maxHeartbeats 1000000 in
theorem indexBad_any (v : Option Addr) (cap : Nat) (L : List (List UInt8)) (hl : L.length ≤ 9223372036854775000) (w : World) (hr : ReadsStr w v L) :
    Calls Tryz.prog 170 #[.slice v L.length cap, .func (.func 208) #[] #[]] w fun e w' => (∃ z : Int, e = .returned (.int .i64 z) ∧ (decide (0 ≤ z) = !L.all keyB)) ∧ Below w.heap.size w w' := by
  have HR := Lib.hid hr
  clear hr
  go_enter Tryz.func170, Tryz.ntmps170
  go_wp2_with fail
  go_loopw [8] (fun s8 wr => ∃ i : Nat, i ≤ L.length ∧ s8 = .int .i64 i ∧ L.all keyB = (L.drop i).all keyB ∧ Below w.heap.size w wr) (fun s8 _ => L.length - (RowKit.intOf s8).toNat)
  case atStart => exact ⟨0, by omega, rfl, rfl, Below.refl _ _⟩
  case round =>
    obtain ⟨i, hi, rfl, hd, hbel⟩ := hrel
    have HD := Lib.hid hd
    have HB := Lib.hid hbel
    have HR1 := Lib.hid (HR.out.below hbel)
    clear hd hbel
    by_cases hlt : i < L.length
    · obtain ⟨b, off, rfl, hb, hc⟩ := HR1.out i hlt
      have F := Lib.hid (fun w => notKey_any ⟨L[i].toArray⟩ w)
      have h1 : (L.drop i).all keyB = (keyB L[i] && (L.drop (i + 1)).all keyB) := by rw [List.drop_eq_getElem_cons hlt, List.all_cons]
      rw [show (⟨L[i].toArray⟩ : ByteArray).data.toList = L[i] by simp] at F
      generalize keyB L[i] = q at F h1
      generalize (⟨L[i].toArray⟩ : ByteArray) = x at hc F
      cases q
      · have HF := Lib.hid (show L.all keyB = false by rw [HD.out, h1]; rfl)
        clear h1
        go_wp2_with fail
        go_fit (F.out _)
        rintro e w1 ⟨rfl, hb2⟩
        have HB2 := Lib.hid (HB.out.trans (hb2.mono HB.out.size))
        clear hb2
        go_wp2_with fail
        go_ret
        exact ⟨⟨_, rfl, by rw [HF.out]; simp⟩, HB2.out⟩
      · have HF := Lib.hid (show L.all keyB = (L.drop (i + 1)).all keyB by rw [HD.out, h1]; rfl)
        clear h1
        go_wp2_with fail
        go_fit (F.out _)
        rintro e w1 ⟨rfl, hb2⟩
        have HB2 := Lib.hid (HB.out.trans (hb2.mono HB.out.size))
        clear hb2
        go_wp2_with fail
        exact ⟨⟨i + 1, by omega, by go_num, HF.out, HB2.out⟩, by simp [RowKit.intOf]; omega⟩
    · obtain rfl : i = L.length := by omega
      have HF := Lib.hid (show L.all keyB = true by rw [HD.out]; simp)
      go_wp2_with fail
      go_ret
      exact ⟨⟨_, rfl, by rw [HF.out]; rfl⟩, HB.out⟩
set_option maxHeartbeats 1000000 in
theorem containsBad_any (v : Option Addr) (cap : Nat) (L : List (List UInt8)) (hl : L.length ≤ 9223372036854775000) (w : World) (hr : ReadsStr w v L) :
    Calls Tryz.prog 134 #[.slice v L.length cap, .func (.func 208) #[] #[]] w fun e w' => e = .returned (.bool (!L.all keyB)) ∧ Below w.heap.size w w' := by
  have X := Lib.hid (indexBad_any v cap L hl w hr)
  clear hr
  go_enter Tryz.func134, Tryz.ntmps134
  go_wp2_with fail
  go_fit X.out
  rintro e w1 ⟨⟨z, rfl, hz⟩, hb⟩
  have HZ := Lib.hid hz
  have HB := Lib.hid hb
  clear hz hb
  go_wp2_with fail
  go_ret
  exact ⟨by rw [← HZ.out]; rfl, HB.out⟩

set_option maxHeartbeats 1000000 in
theorem validKeys_any (k : Int) (t : Bool) (i : Int) (s : ByteArray) (av kv : Option Addr) (l : List Vl) (ks : List (List UInt8)) (c kc : Nat) (_hn : l.length ≤ 9223372036854775000) (hl : ks.length ≤ 9223372036854775000) (hsz : ∀ x, x ∈ ks → x.length ≤ 140737488351232) (w : World) (hr : ReadsStr w kv ks) :
    Calls Tryz.prog 174 #[.agg #[.int .i64 k, .bool t, .int .i64 i, .string s, .slice av l.length c, .slice kv ks.length kc]] w fun e w' => e = .returned (.bool (keysB l ks)) ∧ Below w.heap.size w w' := by
  have X := Lib.hid (fun w (h : ReadsStr w kv ks) => containsBad_any kv kc ks hl w h)
  have Y := Lib.hid (fun w (h : ReadsStr w kv ks) => idAscending_any kv kc ks hl hsz w h)
  have HR := Lib.hid hr
  clear hr hsz
  by_cases h1 : ks.length = l.length
  · have g1 : ((ks.length : Int) == (l.length : Int)) = true := by rw [h1]; exact beq_self_eq_true _
    have E := Lib.hid (show keysB l ks = (ks.all keyB && ascB ks) by unfold keysB; rw [decide_eq_true h1, Bool.true_and])
    clear h1
    go_enter Tryz.func174, Tryz.ntmps174
    go_wp2_with fail
    go_fit (X.out _ (HR.out.below ((Below.refl _ _).alloc (Nat.le_refl _) _)))
    rintro e w1 ⟨rfl, hb1⟩
    have HB1 := Lib.hid (((Below.refl w.heap.size w).alloc (Nat.le_refl _) (.cells #[.int .i64 k, .bool t, .int .i64 i, .string s, .slice av l.length c, .slice kv ks.length kc] 26)).trans (hb1.mono (by simp)))
    have g2 := (hb1.cell (p := ⟨w.heap.size, 5, none⟩) (by simp)).trans (show _ = some (.slice kv ks.length kc) by simp)
    clear hb1
    cases h2 : ks.all keyB
    · rw [h2] at E
      go_wp2_with fail
      go_ret
      exact ⟨by rw [E.out]; rfl, HB1.out⟩
    · rw [h2] at E
      go_wp2_with fail
      go_fit (Y.out _ (HR.out.below HB1.out))
      rintro e w2 ⟨rfl, hb2⟩
      have HB2 := Lib.hid (HB1.out.trans (hb2.mono HB1.out.size))
      clear hb2
      go_wp2_with fail
      go_ret
      exact ⟨by rw [E.out]; rfl, HB2.out⟩
  · have g1 : ((ks.length : Int) == (l.length : Int)) = false := by rw [beq_eq_false_iff_ne]; omega
    have E := Lib.hid (show keysB l ks = false by unfold keysB; rw [decide_eq_false h1]; rfl)
    clear h1
    go_enter Tryz.func174, Tryz.ntmps174
    go_wp2_with fail
    go_ret
    exact ⟨by rw [E.out]; rfl, by repeat (first | exact Below.refl _ _ | refine Below.setCell ?_ (by simp <;> omega) _ | refine Below.alloc ?_ (by simp <;> omega) _)⟩
end Go.Proofs.YtjehhldboopocaaGreatDoor
