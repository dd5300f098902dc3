/- The contracts of cmp.Compare at bytes, cmp.Or at three numbers, and of the program's first, compareRuns and compareElements (ident). -/
import Derived.Test.YtmjikddceegloaaGreatDoorIdpA
import Derived.Test.YtmjikddceegloaaGreatDoorIdnH
import Derived.Test.YtmjikddceegloaaGreatDoorShelf
import Derived.Lib.Strings
import Derived.Deep.RegionWith
namespace Go.Proofs.YtmjikddceegloaaGreatDoor
open Go.RowKit Go.Lib

theorem nanB_any (c : Nat) (w : World) : Calls Tryz.prog 96 #[.int .u8 (c : Int)] w fun e w' => e = .returned (.bool false) ∧ w = w' := by
  have g : ((c : Int) != (c : Int)) = false := by simp
  go_enter Tryz.func96, Tryz.ntmps96
  go_wp2_with fail
  go_ret
  exact ⟨rfl, rfl⟩
theorem cmpB_any (x y : Nat) (w : World) : Calls Tryz.prog 82 #[.int .u8 (x : Int), .int .u8 (y : Int)] w fun e w' => e = .returned (.int .i64 (natC x y)) ∧ w = w' := by
  have N1 := Lib.hid (fun w => nanB_any x w)
  have N2 := Lib.hid (fun w => nanB_any y w)
  rcases Nat.lt_trichotomy x y with h | h | h
  · have HF := Lib.hid (show natC x y = -1 by unfold natC; rw [if_pos h])
    go_enter Tryz.func82, Tryz.ntmps82
    go_wp2_with fail
    go_fit (N1.out _)
    rintro e w1 ⟨rfl, rfl⟩
    go_wp2_with fail
    go_fit (N2.out _)
    rintro e w1 ⟨rfl, rfl⟩
    go_wp2_with fail
    go_ret
    exact ⟨by rw [HF.out]; rfl, rfl⟩
  · subst h
    have HF := Lib.hid (show natC x x = 0 by unfold natC; simp)
    have g1 : ¬ (x : Int) < (x : Int) := by omega
    go_enter Tryz.func82, Tryz.ntmps82
    go_wp2_with fail
    go_fit (N1.out _)
    rintro e w1 ⟨rfl, rfl⟩
    go_wp2_with fail
    go_fit (N2.out _)
    rintro e w1 ⟨rfl, rfl⟩
    go_wp2_with fail
    go_ret
    exact ⟨by rw [HF.out]; rfl, rfl⟩
  · have HF := Lib.hid (show natC x y = 1 by unfold natC; rw [if_neg (by omega), if_pos h])
    have g1 : ¬ x < y := by omega
    go_enter Tryz.func82, Tryz.ntmps82
    go_wp2_with fail
    go_fit (N1.out _)
    rintro e w1 ⟨rfl, rfl⟩
    go_wp2_with fail
    go_fit (N2.out _)
    rintro e w1 ⟨rfl, rfl⟩
    go_wp2_with fail
    go_ret
    exact ⟨by rw [HF.out]; rfl, rfl⟩

def or3 (a b c : Int) : Int := if a ≠ 0 then a else if b ≠ 0 then b else c
set_option maxHeartbeats 1000000 in
theorem or3_any (g : Nat) (a b c : Int) (w : World) (h0 : w.cell? ⟨g, 0, none⟩ = some (.int .i64 a)) (h1 : w.cell? ⟨g, 1, none⟩ = some (.int .i64 b)) (h2 : w.cell? ⟨g, 2, none⟩ = some (.int .i64 c)) :
    Calls Tryz.prog 42 #[.slice (some ⟨g, 0, none⟩) 3 3] w fun e w' => e = .returned (.int .i64 (or3 a b c)) ∧ w = w' := by
  go_enter Tryz.func42, Tryz.ntmps42
  go_wp2_with fail
  go_loop [8] (fun s8 => ∃ i : Nat, i ≤ 3 ∧ s8 = .int .i64 i ∧ (1 ≤ i → a = 0) ∧ (2 ≤ i → b = 0) ∧ (3 ≤ i → c = 0)) (fun s8 => 3 - (RowKit.intOf s8).toNat)
  case atStart => exact ⟨0, by omega, rfl, by omega, by omega, by omega⟩
  case round =>
    obtain ⟨i, hi, rfl, ha, hb, hc⟩ := hrel
    have HA := Lib.hid ha
    have HB := Lib.hid hb
    have HC := Lib.hid hc
    clear ha hb hc
    rcases (show i = 0 ∨ i = 1 ∨ i = 2 ∨ i = 3 by omega) with rfl | rfl | rfl | rfl
    · by_cases hz : a = 0
      · have g1 : (a != 0) = false := by rw [bne_eq_false_iff_eq]; exact hz
        have HZ := Lib.hid hz
        clear hz
        go_wp2_with fail
        exact ⟨⟨1, by omega, rfl, fun _ => HZ.out, by omega, by omega⟩, by simp [RowKit.intOf]⟩
      · have g1 : (a != 0) = true := by rw [bne_iff_ne]; exact hz
        have HZ := Lib.hid (show or3 a b c = a by unfold or3; rw [if_pos hz])
        clear hz
        go_wp2_with fail
        go_ret
        exact ⟨by rw [HZ.out]; rfl, rfl⟩
    · by_cases hz : b = 0
      · have g1 : (b != 0) = false := by rw [bne_eq_false_iff_eq]; exact hz
        have HZ := Lib.hid hz
        clear hz
        go_wp2_with fail
        exact ⟨⟨2, by omega, rfl, fun _ => HA.out (by omega), fun _ => HZ.out, by omega⟩, by simp [RowKit.intOf]⟩
      · have g1 : (b != 0) = true := by rw [bne_iff_ne]; exact hz
        have HZ := Lib.hid (show or3 a b c = b by unfold or3; rw [if_neg (by rw [HA.out (by omega)]; decide), if_pos hz])
        clear hz
        go_wp2_with fail
        go_ret
        exact ⟨by rw [HZ.out]; rfl, rfl⟩
    · by_cases hz : c = 0
      · have g1 : (c != 0) = false := by rw [bne_eq_false_iff_eq]; exact hz
        have HZ := Lib.hid hz
        clear hz
        go_wp2_with fail
        exact ⟨⟨3, by omega, rfl, fun _ => HA.out (by omega), fun _ => HB.out (by omega), fun _ => HZ.out⟩, by simp [RowKit.intOf]⟩
      · have g1 : (c != 0) = true := by rw [bne_iff_ne]; exact hz
        have HZ := Lib.hid (show or3 a b c = c by unfold or3; rw [if_neg (by rw [HA.out (by omega)]; decide), if_neg (by rw [HB.out (by omega)]; decide)])
        clear hz
        go_wp2_with fail
        go_ret
        exact ⟨by rw [HZ.out]; rfl, rfl⟩
    · have HZ := Lib.hid (show or3 a b c = 0 by unfold or3; rw [if_neg (by rw [HA.out (by omega)]; decide), if_neg (by rw [HB.out (by omega)]; decide)]; exact HC.out (by omega))
      go_wp2_with fail
      go_ret
      exact ⟨by rw [HZ.out]; rfl, rfl⟩

/-- The first element: a run of digits or a single byte. -/
def firstL (l : List UInt8) : List UInt8 := l.take (max (l.takeWhile dg).length 1)
theorem first_ext (s : ByteArray) (i : Nat) : s.extract 0 (max (i : Int) 1).toNat = ⟨(s.data.toList.take (max i 1)).toArray⟩ := by
  rw [extract_mk, show (max (i : Int) 1).toNat = max i 1 by omega, List.drop_zero]
set_option maxHeartbeats 1000000 in
theorem first_any (s : ByteArray) (hs : s.size ≤ 1099511627776) (h0 : 0 < s.size) (w : World) :
    Calls Tryz.prog 61 #[.string s] w fun e w' => e = .returned (.string ⟨(firstL s.data.toList).toArray⟩) ∧ w = w' := by
  have hsl := listS_len s
  have hr0 : runE s.data.toList 0 = (s.data.toList.takeWhile dg).length := by unfold runE; rw [List.drop_zero, Nat.zero_add]; rfl
  have HSL := Lib.hid hsl
  have HR0 := Lib.hid hr0
  clear hsl hr0
  go_enter Tryz.func61, Tryz.ntmps61
  go_wp2_with fail
  go_loop [3] (fun s3 => ∃ i : Nat, i ≤ s.size ∧ s3 = .int .i64 i ∧ Hid (runE s.data.toList 0 = runE s.data.toList i)) (fun s3 => s.size - (RowKit.intOf s3).toNat)
  case atStart => exact ⟨0, by omega, rfl, Lib.hid rfl⟩
  case round =>
    obtain ⟨i, hi, rfl, HR⟩ := hrel
    have fin : ∀ (_ : runE s.data.toList i = i), firstL s.data.toList = s.data.toList.take (max i 1) := fun h => by unfold firstL; rw [← HR0.out, HR.out, h]
    have FIN := Lib.hid fin
    clear fin
    by_cases hlt : i < s.size
    · have D := Lib.hid (fun w => idDigit_any s[i].toNat s[i].toNat_lt w)
      cases hd : digB s[i].toNat
      · rw [hd] at D
        have HF := Lib.hid (FIN.out (runE_out (by rw [HSL.out]; exact hlt) hd))
        clear hd
        go_wp2_with fail
        go_fit (D.out _)
        rintro e w1 ⟨rfl, rfl⟩
        go_wp2_with fail
        go_ret
        exact ⟨by rw [HF.out, ← first_ext]; rfl, rfl⟩
      · rw [hd] at D
        have HN := Lib.hid (HR.out.trans (runE_in (by rw [HSL.out]; exact hlt) hd))
        clear hd
        go_wp2_with fail
        go_fit (D.out _)
        rintro e w1 ⟨rfl, rfl⟩
        go_wp2_with fail
        exact ⟨⟨i + 1, by omega, by go_num, HN⟩, by simp [RowKit.intOf]; omega⟩
    · obtain rfl : i = s.size := by omega
      have HF := Lib.hid (FIN.out (by have := runE_end s.data.toList; rw [HSL.out] at this; exact this))
      go_wp2_with fail
      go_ret
      exact ⟨by rw [HF.out, ← first_ext]; rfl, rfl⟩

theorem trim_strip (l : List UInt8) : Lib.trimLeftB l 48 = stripL l := by
  unfold Lib.trimLeftB stripL
  congr 1
  funext b
  by_cases h : b = 48
  · subst h; rfl
  · have h2 : b.toNat ≠ 48 := fun e => h (UInt8.toNat_inj.1 e)
    rw [beq_eq_false_iff_ne.2 h, beq_eq_false_iff_ne.2 h2]
theorem cmpInt_nat (x y : Nat) : Lib.compareInt (x : Int) (y : Int) = natC x y := by
  unfold Lib.compareInt natC
  by_cases h1 : x < y
  · rw [if_pos (by omega), if_pos h1]
  · rw [if_neg (by omega), if_neg h1]
    by_cases h2 : y < x
    · rw [if_pos (by omega), if_pos h2]
    · rw [if_neg (by omega), if_neg h2]
theorem cmpBytes_less : ∀ p q : List UInt8, Lib.compareBytes p q = if p = q then 0 else if Op.bytesLess p q = true then -1 else 1
  | [], [] => by simp [Lib.compareBytes]
  | [], _ :: _ => by simp [Lib.compareBytes, Op.bytesLess]
  | _ :: _, [] => by simp [Lib.compareBytes, Op.bytesLess]
  | a :: p, b :: q => by
    have ih := cmpBytes_less p q
    rw [Lib.compareBytes]
    by_cases h1 : a < b
    · have hne : a ≠ b := fun e => by subst e; exact absurd h1 (UInt8.lt_irrefl _)
      simp [h1, hne, Op.bytesLess]
    · by_cases h2 : b < a
      · have hne : a ≠ b := fun e => by subst e; exact absurd h2 (UInt8.lt_irrefl _)
        simp [h1, h2, hne, Op.bytesLess]
      · have e : a = b := UInt8.toNat_inj.1 (by
          have g1 : ¬ a.toNat < b.toNat := h1
          have g2 : ¬ b.toNat < a.toNat := h2
          omega)
        subst e
        rw [if_neg h1, if_neg h1, ih]
        simp [Op.bytesLess]
theorem or3_runs (x y : List UInt8) : or3 (natC (stripL x).length (stripL y).length) (Lib.compareBytes (stripL x) (stripL y)) (natC x.length y.length) = runsI x y := by
  unfold or3 runsI
  rw [cmpBytes_less, natC_ord, natC_ord]
  by_cases h1 : (stripL x).length = (stripL y).length
  · have h0 : ordI (decide ((stripL x).length < (stripL y).length)) (decide ((stripL y).length < (stripL x).length)) = 0 := by rw [h1]; simp [ordI]
    rw [h0, if_neg (show ¬ (0 : Int) ≠ 0 by simp), if_neg (show ¬ (stripL x).length ≠ (stripL y).length from fun e => e h1)]
    by_cases h2 : stripL x = stripL y
    · simp [h2]
    · rw [if_neg h2, if_pos (show stripL x ≠ stripL y from h2)]
      by_cases h3 : Op.bytesLess (stripL x) (stripL y) = true <;> simp [h3]
  · have h0 : ordI (decide ((stripL x).length < (stripL y).length)) (decide ((stripL y).length < (stripL x).length)) ≠ 0 := by
      unfold ordI
      rcases Nat.lt_or_ge (stripL x).length (stripL y).length with h | h
      · simp [h]
      · have : (stripL y).length < (stripL x).length := by omega
        simp [this, Nat.not_lt.2 h]
    rw [if_pos h0, if_pos (show (stripL x).length ≠ (stripL y).length from h1)]

/-- New blocks and draws alone. -/
def BelowD (w w' : World) : Prop := Below w.heap.size w w' ∧ w.drawn ≤ w'.drawn
theorem BelowD.refl (w : World) : BelowD w w := ⟨Below.refl _ _, Nat.le_refl _⟩
theorem BelowD.trans {a b c : World} (h : BelowD a b) (k : BelowD b c) : BelowD a c := ⟨h.1.trans (k.1.mono h.1.size), Nat.le_trans h.2 k.2⟩
theorem BelowD.drew {a b : World} (h : BelowD a b) : BelowD a b.drew := ⟨h.1.drew, Nat.le_succ_of_le h.2⟩
set_option maxHeartbeats 1000000 in
theorem cmpRuns_any (a b : ByteArray) (_ha : a.size ≤ 1099511627776) (_hb : b.size ≤ 1099511627776) (w : World) :
    Calls Tryz.prog 81 #[.string a, .string b] w fun e w' => e = .returned (.int .i64 (runsI a.data.toList b.data.toList)) ∧ BelowD w w' := by
  have T1 := Lib.hid (fun w => Tryz.strings_TrimLeft_one a 48 (by decide) w)
  have T2 := Lib.hid (fun w => Tryz.strings_TrimLeft_one b 48 (by decide) w)
  rw [trim_strip] at T1 T2
  have hp : (⟨(stripL a.data.toList).toArray⟩ : ByteArray).size = (stripL a.data.toList).length := mkS_size _
  have hq : (⟨(stripL b.data.toList).toArray⟩ : ByteArray).size = (stripL b.data.toList).length := mkS_size _
  have l1 := strip_len a.data.toList
  have l2 := strip_len b.data.toList
  rw [listS_len] at l1 l2
  have HO := Lib.hid (or3_runs a.data.toList b.data.toList)
  rw [listS_len, listS_len, ← hp, ← hq] at HO
  rw [← hp] at l1
  rw [← hq] at l2
  have hc : ∀ p q : ByteArray, p = ⟨(stripL a.data.toList).toArray⟩ → q = ⟨(stripL b.data.toList).toArray⟩ → Lib.compareBytes p.data.toList q.data.toList = Lib.compareBytes (stripL a.data.toList) (stripL b.data.toList) := by
    rintro p q rfl rfl; rfl
  obtain ⟨p, hpe⟩ : ∃ p : ByteArray, p = ⟨(stripL a.data.toList).toArray⟩ := ⟨_, rfl⟩
  obtain ⟨q, hqe⟩ : ∃ q : ByteArray, q = ⟨(stripL b.data.toList).toArray⟩ := ⟨_, rfl⟩
  rw [← hpe] at T1 HO l1
  rw [← hqe] at T2 HO l2
  rw [← hc p q hpe hqe] at HO
  have C1 := Lib.hid (fun w => Tryz.cmp_Compare_int (p.size : Int) (q.size : Int) w)
  have C2 := Lib.hid (fun w => Tryz.strings_Compare p q w)
  have C3 := Lib.hid (fun w => Tryz.cmp_Compare_int (a.size : Int) (b.size : Int) w)
  rw [cmpInt_nat] at C1 C3
  generalize natC p.size q.size = n1 at C1 HO
  generalize Lib.compareBytes p.data.toList q.data.toList = n2 at C2 HO
  generalize natC a.size b.size = n3 at C3 HO
  have O := Lib.hid (fun (w : World) h0 h1 h2 => or3_any w.heap.size n1 n2 n3 (w.alloc (.cells #[.int .i64 n1, .int .i64 n2, .int .i64 n3] 3)) h0 h1 h2)
  rw [HO.out] at O
  clear hp hq hc hpe hqe HO
  go_enter Tryz.func81, Tryz.ntmps81
  go_wp2_with fail
  go_fit (T1.out _)
  rintro e w1 ⟨rfl, rfl⟩
  go_wp2_with fail
  go_fit (T2.out _)
  rintro e w1 ⟨rfl, rfl⟩
  go_wp2_with fail
  go_fit (C1.out _)
  rintro e w1 ⟨rfl, rfl⟩
  go_wp2_with fail
  go_fit (C2.out _)
  rintro e w1 ⟨rfl, rfl⟩
  go_wp2_with fail
  go_fit (C3.out _)
  rintro e w1 ⟨rfl, rfl⟩
  go_wp2_with fail
  go_fit (O.out _ (by simp [go_sem]) (by simp [go_sem]) (by simp [go_sem]))
  rintro e w2 ⟨rfl, rfl⟩
  go_wp2_with fail
  go_ret
  exact ⟨rfl, (Below.refl _ _).alloc (Nat.le_refl _) _, Nat.le_refl _⟩
end Go.Proofs.YtmjikddceegloaaGreatDoor
