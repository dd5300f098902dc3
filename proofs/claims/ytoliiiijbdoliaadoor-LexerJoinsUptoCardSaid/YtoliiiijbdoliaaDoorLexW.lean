/- The document's characters, Quote and Join (lexer); how tokens that come in are opened. -/
import Derived.Test.YtoliiiijbdoliaaDoorLexX
import Derived.IntWalk
namespace Go.Proofs.YtoliiiijbdoliaaDoor
open Go.RowKit Go.Lib
set_option linter.unusedVariables false

theorem app_str (a b : List UInt8) : (⟨a.toArray⟩ : ByteArray) ++ ⟨b.toArray⟩ = ⟨(a ++ b).toArray⟩ := by
  apply ByteArray.ext
  simp [ByteArray.data_append]
theorem conv_one (x : Int) (h0 : 0 ≤ x) (h1 : x ≤ 255) (w : World) (B cap : Nat) (hc : w.cell? ⟨B, 0, none⟩ = some (.int .u8 x)) : (convert 35 9 (.slice (some ⟨B, 0, none⟩) 1 cap)).run Tryd.prog w = .ok (.string ⟨#[UInt8.ofNat x.toNat]⟩) w := by
  have hx : ((UInt8.ofNat x.toNat).toNat : Int) = x := by rw [UInt8.toNat_ofNat']; omega
  refine conv_str (some ⟨B, 0, none⟩) [UInt8.ofNat x.toNat] w (fun k hk => ?_) cap
  obtain rfl : k = 0 := by simpa using hk
  refine ⟨B, 0, rfl, World.block_lt_of_cell? w _ hc, ?_⟩
  simp only [List.getElem_cons_zero, Nat.zero_add]
  rw [hx]
  exact hc

theorem conv_two (a b : UInt8) (w : World) (B cap : Nat) (h0 : w.cell? ⟨B, 0, none⟩ = some (.int .u8 a.toNat)) (h1 : w.cell? ⟨B, 1, none⟩ = some (.int .u8 b.toNat)) : (convert 35 9 (.slice (some ⟨B, 0, none⟩) 2 cap)).run Tryd.prog w = .ok (.string ⟨#[a, b]⟩) w := by
  refine conv_str (some ⟨B, 0, none⟩) [a, b] w (fun k hk => ⟨B, 0, rfl, World.block_lt_of_cell? w _ h0, ?_⟩) cap
  have hk : k < 2 := hk
  rw [Nat.zero_add]
  rcases (show k = 0 ∨ k = 1 by omega) with rfl | rfl
  · exact h0
  · exact h1
theorem conv_four (a b c d : UInt8) (w : World) (B cap : Nat) (h0 : w.cell? ⟨B, 0, none⟩ = some (.int .u8 a.toNat)) (h1 : w.cell? ⟨B, 1, none⟩ = some (.int .u8 b.toNat)) (h2 : w.cell? ⟨B, 2, none⟩ = some (.int .u8 c.toNat)) (h3 : w.cell? ⟨B, 3, none⟩ = some (.int .u8 d.toNat)) : (convert 35 9 (.slice (some ⟨B, 0, none⟩) 4 cap)).run Tryd.prog w = .ok (.string ⟨#[a, b, c, d]⟩) w := by
  refine conv_str (some ⟨B, 0, none⟩) [a, b, c, d] w (fun k hk => ⟨B, 0, rfl, World.block_lt_of_cell? w _ h0, ?_⟩) cap
  have hk : k < 4 := hk
  rw [Nat.zero_add]
  rcases (show k = 0 ∨ k = 1 ∨ k = 2 ∨ k = 3 by omega) with rfl | rfl | rfl | rfl
  · exact h0
  · exact h1
  · exact h2
  · exact h3
set_option maxHeartbeats 4000000 in
theorem chr_any (c : UInt8) (w : World) : Calls Tryd.prog 26 #[.int .u8 c.toNat] w fun e w' => e = .returned (.string ⟨(chrL c).toArray⟩) ∧ Below w.heap.size w w' := by
  by_cases h1 : c.toNat = 34
  · have E := Lib.hid (show chrL c = [92, 34] by unfold chrL; rw [if_pos h1])
    rw [show (c.toNat : Int) = 34 by omega]
    have cv := fun (w : World) (B cap : Nat) (h0 : w.cell? ⟨B, 0, none⟩ = some (.int .u8 92)) (h1 : w.cell? ⟨B, 1, none⟩ = some (.int .u8 34)) => conv_two 92 34 w B cap h0 h1
    clear h1 
    go_enter Tryd.func26, Tryd.ntmps26
    go_wp2_with fail
    go_ret
    exact ⟨by rw [E.out]; rfl, (by repeat (first | exact Below.refl _ _ | refine Below.alloc ?_ (by simp <;> omega) _))⟩
  have g1 : ((c.toNat : Int) == 34) = false := by rw [beq_eq_false_iff_ne]; omega
  by_cases h2 : c.toNat = 92
  · have E := Lib.hid (show chrL c = [92, 92] by unfold chrL; rw [if_neg h1, if_pos h2])
    rw [show (c.toNat : Int) = 92 by omega]
    have cv := fun (w : World) (B cap : Nat) (h0 : w.cell? ⟨B, 0, none⟩ = some (.int .u8 92)) (h1 : w.cell? ⟨B, 1, none⟩ = some (.int .u8 92)) => conv_two 92 92 w B cap h0 h1
    clear h1 h2 g1
    go_enter Tryd.func26, Tryd.ntmps26
    go_wp2_with fail
    go_ret
    exact ⟨by rw [E.out]; rfl, (by repeat (first | exact Below.refl _ _ | refine Below.alloc ?_ (by simp <;> omega) _))⟩
  have g2 : ((c.toNat : Int) == 92) = false := by rw [beq_eq_false_iff_ne]; omega
  by_cases h3 : c.toNat = 10
  · have E := Lib.hid (show chrL c = [92, 110] by unfold chrL; rw [if_neg h1, if_neg h2, if_pos h3])
    rw [show (c.toNat : Int) = 10 by omega]
    have cv := fun (w : World) (B cap : Nat) (h0 : w.cell? ⟨B, 0, none⟩ = some (.int .u8 92)) (h1 : w.cell? ⟨B, 1, none⟩ = some (.int .u8 110)) => conv_two 92 110 w B cap h0 h1
    clear h1 h2 h3 g1 g2
    go_enter Tryd.func26, Tryd.ntmps26
    go_wp2_with fail
    go_ret
    exact ⟨by rw [E.out]; rfl, (by repeat (first | exact Below.refl _ _ | refine Below.alloc ?_ (by simp <;> omega) _))⟩
  have g3 : ((c.toNat : Int) == 10) = false := by rw [beq_eq_false_iff_ne]; omega
  by_cases h4 : c.toNat = 9
  · have E := Lib.hid (show chrL c = [92, 116] by unfold chrL; rw [if_neg h1, if_neg h2, if_neg h3, if_pos h4])
    rw [show (c.toNat : Int) = 9 by omega]
    have cv := fun (w : World) (B cap : Nat) (h0 : w.cell? ⟨B, 0, none⟩ = some (.int .u8 92)) (h1 : w.cell? ⟨B, 1, none⟩ = some (.int .u8 116)) => conv_two 92 116 w B cap h0 h1
    clear h1 h2 h3 h4 g1 g2 g3
    go_enter Tryd.func26, Tryd.ntmps26
    go_wp2_with fail
    go_ret
    exact ⟨by rw [E.out]; rfl, (by repeat (first | exact Below.refl _ _ | refine Below.alloc ?_ (by simp <;> omega) _))⟩
  have g4 : ((c.toNat : Int) == 9) = false := by rw [beq_eq_false_iff_ne]; omega
  have hc := c.toNat_lt
  by_cases h5 : 32 ≤ c.toNat ∧ c.toNat ≤ 126
  · have E := Lib.hid (show chrL c = [c] by unfold chrL; rw [if_neg h1, if_neg h2, if_neg h3, if_neg h4, if_pos h5])
    have cv := conv_one (c.toNat : Int) (by omega) (by omega)
    rw [show UInt8.ofNat (c.toNat : Int).toNat = c by rw [Int.toNat_natCast, UInt8.ofNat_toNat]] at cv
    have g5 : (32 : Int) ≤ (c.toNat : Int) := by omega
    have g6 : (c.toNat : Int) ≤ 126 := by omega
    clear h1 h2 h3 h4 h5
    go_enter Tryd.func26, Tryd.ntmps26
    go_wp2_with fail
    go_ret
    exact ⟨by rw [E.out]; rfl, (by repeat (first | exact Below.refl _ _ | refine Below.alloc ?_ (by simp <;> omega) _))⟩
  · have E := Lib.hid (show chrL c = [92, 120, hexD (c.toNat / 16), hexD (c.toNat % 16)] by unfold chrL; rw [if_neg h1, if_neg h2, if_neg h3, if_neg h4, if_neg h5])
    have cv := fun (w : World) (B cap : Nat) (h0 : w.cell? ⟨B, 0, none⟩ = some (.int .u8 92)) (h1 : w.cell? ⟨B, 1, none⟩ = some (.int .u8 120)) => conv_four 92 120 (hexD (c.toNat / 16)) (hexD (c.toNat % 16)) w B cap h0 h1
    have b1 : (0 : Int) ≤ (c.toNat : Int) / 16 ∧ (c.toNat : Int) / 16 < 16 := by omega
    have b2 : (0 : Int) ≤ (c.toNat : Int) % 16 ∧ (c.toNat : Int) % 16 < 16 := by omega
    have b3 : (0 : Int) ≤ (c.toNat : Int) ∧ (c.toNat : Int) ≤ 255 := by omega
    have x1 := fun h => hexAt' ((c.toNat : Int) / 16) (c.toNat / 16) (by omega) (by omega) h
    have x2 := fun h => hexAt' ((c.toNat : Int) % 16) (c.toNat % 16) (by omega) (by omega) h
    have v1 : IntKind.u8.wrap ((c.toNat : Int).tdiv 16) = (c.toNat : Int) / 16 := IntWalk.u8_quo _ _ (by omega)
    have v2 : (c.toNat : Int).tmod 16 = (c.toNat : Int) % 16 := IntWalk.rem_in _ _ (by omega)
    by_cases h6 : c.toNat < 32
    · have g5 : ¬ (32 : Int) ≤ (c.toNat : Int) := by omega
      clear h1 h2 h3 h4 h5 h6 hc
      go_enter Tryd.func26, Tryd.ntmps26
      go_wp2_with fail
      go_region
      all_goals
        go_wp2_with fail
        go_ret
        exact ⟨by rw [E.out]; rfl, (by repeat (first | exact Below.refl _ _ | refine Below.drew ?_ | refine Below.alloc ?_ (by simp <;> omega) _))⟩
    · have g5 : (32 : Int) ≤ (c.toNat : Int) := by omega
      have g6 : ¬ (c.toNat : Int) ≤ 126 := by omega
      clear h1 h2 h3 h4 h5 h6 hc
      go_enter Tryd.func26, Tryd.ntmps26
      go_wp2_with fail
      go_region
      all_goals
        go_wp2_with fail
        go_ret
        exact ⟨by rw [E.out]; rfl, (by repeat (first | exact Below.refl _ _ | refine Below.drew ?_ | refine Below.alloc ?_ (by simp <;> omega) _))⟩
set_option maxHeartbeats 4000000 in
set_option maxRecDepth 100000 in
theorem quo_any (s : ByteArray) (hs : s.size ≤ 140737488351232) (w : World) : Calls Tryd.prog 20 #[.string s] w fun e w' => e = .returned (.string ⟨(quoL s.data.toList).toArray⟩) ∧ Below w.heap.size w w' := by
  have hsl := lenB s
  have cv : ∀ (w : World) (B cap : Nat), w.cell? ⟨B, 0, none⟩ = some (.int .u8 34) → (convert 35 9 (.slice (some ⟨B, 0, none⟩) 1 cap)).run Tryd.prog w = .ok (.string ⟨#[34]⟩) w := fun w B cap h => conv_one 34 (by decide) (by decide) w B cap h
  have B0 := Lib.hid ((Below.refl w.heap.size w).alloc (Nat.le_refl _) (.cells #[.int .u8 34] 5))
  go_enter Tryd.func20, Tryd.ntmps20
  go_wp2_with fail
  go_loopw [3, 4] (fun s3 s4 wr => ∃ (j : Nat) (o : ByteArray), j ≤ s.size ∧ s4 = .int .i64 (j : Int) ∧ s3 = .string o ∧ Hid (o = ⟨(34 :: (s.data.toList.take j).flatMap chrL).toArray⟩) ∧ Hid (Below w.heap.size w wr)) (fun _ s4 _ => s.size - (RowKit.intOf s4).toNat)
  case atStart => exact ⟨0, _, by omega, rfl, rfl, Lib.hid (by simp), B0⟩
  case round =>
    obtain ⟨j, o, hj, rfl, rfl, HO, HB⟩ := hrel
    clear B0
    by_cases hlt : j < s.size
    · have hlt' : j < s.data.toList.length := by omega
      have hsn := flat_snoc s.data.toList j hlt'
      have hfl := flatC_len4 (s.data.toList.take j)
      have htl : (s.data.toList.take j).length ≤ j := List.length_take_le _ _
      have hcl := chrL_four s.data.toList[j]
      have hol : o.size ≤ 4 * j + 1 := by rw [HO.out]; show (34 :: _).length ≤ _; rw [List.length_cons]; omega
      rw [str_at s j hlt] at hsn hcl
      have F := Lib.hid (fun w => chr_any s[j] w)
      have hC : (⟨(chrL s[j]).toArray⟩ : ByteArray).size ≤ 4 := by show (chrL s[j]).length ≤ 4; omega
      obtain ⟨C, hCe⟩ : ∃ C : ByteArray, C = ⟨(chrL s[j]).toArray⟩ := ⟨_, rfl⟩
      rw [← hCe] at F hC
      have s1 := fun w => run_string_add_sum (P := Tryd.prog) w o C (by omega)
      have HN := Lib.hid (show o ++ C = ⟨(34 :: (s.data.toList.take (j + 1)).flatMap chrL).toArray⟩ by rw [HO.out, hCe, hsn, app_str]; rfl)
      have hjI : (0 : Int) ≤ (j : Int) ∧ (j : Int) < (s.size : Int) := by omega
      clear hsn hfl htl hcl hol hC hCe hsl
      go_wp2_with fail
      go_fit (F.out _)
      rintro e w1 ⟨rfl, hb1⟩
      have B1 := Lib.hid (HB.out.trans (hb1.mono HB.out.size))
      clear hb1
      go_wp2_with fail
      exact ⟨⟨j + 1, _, by omega, by go_num, rfl, HN, B1⟩, by simp [RowKit.intOf]; omega⟩
    · obtain rfl : j = s.size := by omega
      have hfl := flatC_len4 s.data.toList
      have htk : s.data.toList.take s.size = s.data.toList := List.take_of_length_le (by omega)
      have ho := HO.out
      rw [htk] at ho
      have hol : o.size ≤ 4 * s.size + 1 := by rw [ho]; show (34 :: _).length ≤ _; rw [List.length_cons]; omega
      have s1 := fun w => run_string_add_sum (P := Tryd.prog) w o ⟨#[34]⟩ (by show o.size + 1 ≤ _; omega)
      have E := Lib.hid (show (⟨(quoL s.data.toList).toArray⟩ : ByteArray) = o ++ ⟨#[34]⟩ by
        rw [ho]
        show (⟨((34 :: s.data.toList.flatMap chrL) ++ [34]).toArray⟩ : ByteArray) = _
        exact (app_str _ [34]).symm)
      have B2 := Lib.hid (HB.out.alloc HB.out.size (.cells #[.int .u8 34] 5))
      clear ho htk hfl hol hsl hlt
      go_wp2_with fail
      go_ret
      exact ⟨by rw [E.out]; rfl, B2.out⟩

set_option maxHeartbeats 1000000 in
theorem rQuote_any (s : ByteArray) (hs : s.size ≤ 140737488351232) (w : World) : Calls Tryd.prog 12 #[.string s] w fun e w' => e = .returned (.string ⟨(quoL s.data.toList).toArray⟩) ∧ Below w.heap.size w w' := by
  have Q := Lib.hid (fun w => quo_any s hs w)
  obtain ⟨q, hq⟩ : ∃ q : ByteArray, q = ⟨(quoL s.data.toList).toArray⟩ := ⟨_, rfl⟩
  rw [← hq] at Q
  go_enter Tryd.func12, Tryd.ntmps12
  go_wp2_with fail
  go_fit (Q.out _)
  rintro e w1 ⟨rfl, hb⟩
  have B1 := Lib.hid hb
  clear hb
  go_wp2_with fail
  go_ret
  exact ⟨rfl, B1.out⟩

set_option maxHeartbeats 8000000 in
set_option maxRecDepth 100000 in
theorem rJoin_any (a : Option Addr) (cap : Nat) (L : List Tm) (hl : L.length ≤ 1099511627776) (hm : (joinM false L).length ≤ 140737488351232) (htx : ∀ j (h : j < L.length), L[j].text.length ≤ 140737488351232) (w : World) (hr : ReadsK w a L) :
    Calls Tryd.prog 10 #[.slice a L.length cap] w fun e w' => e = .returned (.string ⟨(joinM false L).toArray⟩) ∧ Below w.heap.size w w' := by
  have HR := Lib.hid hr
  have HM := Lib.hid hm
  have HX := Lib.hid htx
  have B0 := Lib.hid (Below.refl w.heap.size w)
  clear hr hm htx
  go_enter Tryd.func10, Tryd.ntmps10
  go_wp2_with fail
  go_loopw [3, 4] (fun s3 s4 wr => ∃ (j : Nat) (o : ByteArray), j ≤ L.length ∧ s4 = .int .i64 (j : Int) ∧ s3 = .string o ∧ Hid (o = ⟨(joinM false (L.take j)).toArray⟩) ∧ Hid (Below w.heap.size w wr)) (fun _ s4 _ => L.length - (RowKit.intOf s4).toNat)
  case atStart => exact ⟨0, _, by omega, rfl, rfl, Lib.hid rfl, B0⟩
  case round =>
    obtain ⟨j, o, hj, rfl, rfl, HO, HB⟩ := hrel
    clear B0
    by_cases hlt : j < L.length
    · obtain ⟨b1, off1, rfl, h2', c0, c1, c2⟩ := HR.out j hlt
      have p0 := (HB.out.cell (p := ⟨b1, _, none⟩) h2').trans c0
      have p1 := (HB.out.cell (p := ⟨b1, _, none⟩) h2').trans c1
      have hb1 : b1 < wr.heap.size := Nat.lt_of_lt_of_le h2' HB.out.size
      have hjI : (0 : Int) ≤ (j : Int) ∧ (j : Int) < (L.length : Int) := by omega
      have hjj := joinM_take L j hlt
      have hmo := joinM_mono L (j + 1)
      rw [hjj, List.length_append, List.length_append] at hmo
      have hm := HM.out
      have hsc := sep_case L j hlt
      have hxj := HX.out j hlt
      have hsrc : srcM L[j] = if L[j].kind = 3 then quoL L[j].text else if L[j].kind = 5 then [10] else L[j].text := rfl
      have Y := Lib.hid (fun (h0 : 0 < j) => HR.out (j - 1) (by omega))
      clear c0 c1 c2
      obtain ⟨kd, hkd⟩ : ∃ kd, kd = L[j].kind := ⟨_, rfl⟩
      obtain ⟨txl, htxl⟩ : ∃ tx, tx = L[j].text := ⟨_, rfl⟩
      obtain ⟨tx, htx⟩ : ∃ tx : ByteArray, tx = ⟨txl.toArray⟩ := ⟨_, rfl⟩
      rw [← hkd] at p0 hsc hjj hmo hsrc
      rw [← htxl] at p1 hsrc hxj
      rw [← htx] at p1
      have htd : tx.data.toList = txl := by rw [htx]
      have hts : tx.size = txl.length := by rw [← lenB, htd]
      have hos : o.size = (joinM false (L.take j)).length := by rw [HO.out]; show (joinM false (L.take j)).toArray.size = _; simp
      have hol : o.size + (sepL (lastP false (L.take j)) kd).length + (srcM L[j]).length ≤ 140737488351232 := by omega
      have HJ := Lib.hid hjj
      have HO1 := HO.out
      have hlI : (L.length : Int) ≤ 1099511627776 := by omega
      clear hjj hmo hm hkd htxl hos HM HX
      by_cases hz : j = 0
      · have h0I : ¬ (0 : Int) < (j : Int) := by omega
        rcases (show kd = 3 ∨ kd = 5 ∨ (kd ≠ 3 ∧ kd ≠ 5) by omega) with rfl | rfl | ⟨h3, h5⟩
        · have hns : ¬ (0 < j ∧ L[j - 1].kind ≠ 5 ∧ (3 : Int) ≠ 5) := fun h => absurd h.1 (by omega)
          have hsl : sepL (lastP false (L.take j)) (3 : Int) = [] := by rw [hsc, if_neg hns]
          obtain ⟨o1, ho1⟩ : ∃ o1 : ByteArray, o1 = o := ⟨_, rfl⟩
          have ho1e : o1 = ⟨(joinM false (L.take j) ++ []).toArray⟩ := by rw [ho1, HO1, List.append_nil]
          have ho1s : o1.size = o.size := by rw [ho1]
          rw [← ho1] at HO
          rw [hsl] at HJ hol
          have hsr : srcM L[j] = quoL txl := by rw [hsrc, if_pos rfl]
          have F := Lib.hid (fun w => rQuote_any tx (by omega) w)
          rw [htd] at F
          have hSs : (⟨(quoL txl).toArray⟩ : ByteArray).size = (quoL txl).length := by show (quoL txl).toArray.size = _; simp
          rw [hsr] at HJ hol
          obtain ⟨o2, ho2⟩ : ∃ o2 : ByteArray, o2 = o1 ++ (⟨(quoL txl).toArray⟩ : ByteArray) := ⟨_, rfl⟩
          have HN := Lib.hid (show o2 = ⟨(joinM false (L.take (j + 1))).toArray⟩ by rw [ho2, HJ.out, ho1e, ← List.append_assoc]; exact app_str _ _)
          have s2 : ∀ w, (Op.stringOp .add o1 (⟨(quoL txl).toArray⟩ : ByteArray)).run Tryd.prog w = .ok (.string o2) w := fun w => by rw [ho2]; exact run_string_add_sum w o1 (⟨(quoL txl).toArray⟩ : ByteArray) (by rw [hSs, ho1s]; first | omega | (simp at hol; omega))
          clear hsl hsc hsrc hsr hol HJ HO ho1e ho1s ho2 hSs hts htd htx hxj HO1 Y
          clear hns
          subst ho1
          clear hz
          go_wp2_with fail
          go_fit (F.out _)
          rintro e w1 ⟨rfl, hbb⟩
          have B1 := Lib.hid (HB.out.trans (hbb.mono HB.out.size))
          clear hbb
          go_wp2_with fail
          exact ⟨⟨j + 1, _, by omega, by go_num, rfl, HN, B1⟩, by simp [RowKit.intOf]; omega⟩
        · have hns : ¬ (0 < j ∧ L[j - 1].kind ≠ 5 ∧ (5 : Int) ≠ 5) := fun h => absurd h.1 (by omega)
          have hsl : sepL (lastP false (L.take j)) (5 : Int) = [] := by rw [hsc, if_neg hns]
          obtain ⟨o1, ho1⟩ : ∃ o1 : ByteArray, o1 = o := ⟨_, rfl⟩
          have ho1e : o1 = ⟨(joinM false (L.take j) ++ []).toArray⟩ := by rw [ho1, HO1, List.append_nil]
          have ho1s : o1.size = o.size := by rw [ho1]
          rw [← ho1] at HO
          rw [hsl] at HJ hol
          have hsr : srcM L[j] = [10] := by rw [hsrc, if_neg (by decide), if_pos rfl]
          have cv : ∀ (w : World) (B cap : Nat), w.cell? ⟨B, 0, none⟩ = some (.int .u8 10) → (convert 35 9 (.slice (some ⟨B, 0, none⟩) 1 cap)).run Tryd.prog w = .ok (.string ⟨#[10]⟩) w := fun w B cap h => conv_one 10 (by decide) (by decide) w B cap h
          have hSs : (⟨#[10]⟩ : ByteArray).size = 1 := rfl
          rw [hsr] at HJ hol
          obtain ⟨o2, ho2⟩ : ∃ o2 : ByteArray, o2 = o1 ++ (⟨#[10]⟩ : ByteArray) := ⟨_, rfl⟩
          have HN := Lib.hid (show o2 = ⟨(joinM false (L.take (j + 1))).toArray⟩ by rw [ho2, HJ.out, ho1e, ← List.append_assoc]; exact app_str _ _)
          have s2 : ∀ w, (Op.stringOp .add o1 (⟨#[10]⟩ : ByteArray)).run Tryd.prog w = .ok (.string o2) w := fun w => by rw [ho2]; exact run_string_add_sum w o1 (⟨#[10]⟩ : ByteArray) (by rw [hSs, ho1s]; first | omega | (simp at hol; omega))
          clear hsl hsc hsrc hsr hol HJ HO ho1e ho1s ho2 hSs hts htd htx hxj HO1 Y
          clear hns
          subst ho1
          clear hz
          go_wp2_with fail
          exact ⟨⟨j + 1, _, by omega, by go_num, rfl, HN, Lib.hid (HB.out.alloc HB.out.size _)⟩, by simp [RowKit.intOf]; omega⟩
        · have hns : ¬ (0 < j ∧ L[j - 1].kind ≠ 5 ∧ kd ≠ 5) := fun h => absurd h.1 (by omega)
          have hsl : sepL (lastP false (L.take j)) kd = [] := by rw [hsc, if_neg hns]
          obtain ⟨o1, ho1⟩ : ∃ o1 : ByteArray, o1 = o := ⟨_, rfl⟩
          have ho1e : o1 = ⟨(joinM false (L.take j) ++ []).toArray⟩ := by rw [ho1, HO1, List.append_nil]
          have ho1s : o1.size = o.size := by rw [ho1]
          rw [← ho1] at HO
          rw [hsl] at HJ hol
          have hsr : srcM L[j] = txl := by rw [hsrc, if_neg h3, if_neg h5]
          have hSs := hts
          rw [hsr] at HJ hol
          obtain ⟨o2, ho2⟩ : ∃ o2 : ByteArray, o2 = o1 ++ tx := ⟨_, rfl⟩
          have HN := Lib.hid (show o2 = ⟨(joinM false (L.take (j + 1))).toArray⟩ by rw [ho2, HJ.out, ho1e, htx, ← List.append_assoc]; exact app_str _ _)
          have s2 : ∀ w, (Op.stringOp .add o1 tx).run Tryd.prog w = .ok (.string o2) w := fun w => by rw [ho2]; exact run_string_add_sum w o1 tx (by rw [hSs, ho1s]; first | omega | (simp at hol; omega))
          have g1 : (kd != 5) = true := by rw [bne_iff_ne]; exact h5
          have g3 : (kd == 3) = false := by rw [beq_eq_false_iff_ne]; exact h3
          have g5 : (kd == 5) = false := by rw [beq_eq_false_iff_ne]; exact h5
          clear hsl hsc hsrc hsr hol HJ HO ho1e ho1s ho2 hSs hts htd htx hxj HO1 Y
          clear h3 h5
          clear hns
          subst ho1
          clear hz
          go_wp2_with fail
          exact ⟨⟨j + 1, _, by omega, by go_num, rfl, HN, HB⟩, by simp [RowKit.intOf]; omega⟩
      · have h0 : 0 < j := by omega
        clear hz
        by_cases h5 : kd = 5
        · have hns : ¬ (0 < j ∧ L[j - 1].kind ≠ 5 ∧ kd ≠ 5) := fun h => h.2.2 h5
          have hsl : sepL (lastP false (L.take j)) kd = [] := by rw [hsc, if_neg hns]
          obtain ⟨o1, ho1⟩ : ∃ o1 : ByteArray, o1 = o := ⟨_, rfl⟩
          have ho1e : o1 = ⟨(joinM false (L.take j) ++ []).toArray⟩ := by rw [ho1, HO1, List.append_nil]
          have ho1s : o1.size = o.size := by rw [ho1]
          rw [← ho1] at HO
          rw [hsl] at HJ hol
          have hsr : srcM L[j] = [10] := by rw [hsrc, if_neg (by omega), if_pos h5]
          have cv : ∀ (w : World) (B cap : Nat), w.cell? ⟨B, 0, none⟩ = some (.int .u8 10) → (convert 35 9 (.slice (some ⟨B, 0, none⟩) 1 cap)).run Tryd.prog w = .ok (.string ⟨#[10]⟩) w := fun w B cap h => conv_one 10 (by decide) (by decide) w B cap h
          have hSs : (⟨#[10]⟩ : ByteArray).size = 1 := rfl
          rw [hsr] at HJ hol
          obtain ⟨o2, ho2⟩ : ∃ o2 : ByteArray, o2 = o1 ++ (⟨#[10]⟩ : ByteArray) := ⟨_, rfl⟩
          have HN := Lib.hid (show o2 = ⟨(joinM false (L.take (j + 1))).toArray⟩ by rw [ho2, HJ.out, ho1e, ← List.append_assoc]; exact app_str _ _)
          have s2 : ∀ w, (Op.stringOp .add o1 (⟨#[10]⟩ : ByteArray)).run Tryd.prog w = .ok (.string o2) w := fun w => by rw [ho2]; exact run_string_add_sum w o1 (⟨#[10]⟩ : ByteArray) (by rw [hSs, ho1s]; first | omega | (simp at hol; omega))
          have h0I : (0 : Int) < (j : Int) := by omega
          have g1 : (kd != 5) = false := by rw [bne_eq_false_iff_eq]; exact h5
          have g3 : (kd == 3) = false := by rw [beq_eq_false_iff_ne]; omega
          have g5 : (kd == 5) = true := by rw [beq_iff_eq]; exact h5
          clear hsl hsc hsrc hsr hol HJ HO ho1e ho1s ho2 hSs hts htd htx hxj HO1 Y
          clear h5
          clear hns
          subst ho1
          clear h0
          go_wp2_with fail
          exact ⟨⟨j + 1, _, by omega, by go_num, rfl, HN, Lib.hid (HB.out.alloc HB.out.size _)⟩, by simp [RowKit.intOf]; omega⟩
        · by_cases hkp : L[j - 1].kind = 5
          · rcases (show kd = 3 ∨ (kd ≠ 3 ∧ kd ≠ 5) by omega) with rfl | ⟨h3, h5b⟩
            · have hns : ¬ (0 < j ∧ L[j - 1].kind ≠ 5 ∧ (3 : Int) ≠ 5) := fun h => h.2.1 hkp
              have hsl : sepL (lastP false (L.take j)) (3 : Int) = [] := by rw [hsc, if_neg hns]
              obtain ⟨o1, ho1⟩ : ∃ o1 : ByteArray, o1 = o := ⟨_, rfl⟩
              have ho1e : o1 = ⟨(joinM false (L.take j) ++ []).toArray⟩ := by rw [ho1, HO1, List.append_nil]
              have ho1s : o1.size = o.size := by rw [ho1]
              rw [← ho1] at HO
              rw [hsl] at HJ hol
              have hsr : srcM L[j] = quoL txl := by rw [hsrc, if_pos rfl]
              have F := Lib.hid (fun w => rQuote_any tx (by omega) w)
              rw [htd] at F
              have hSs : (⟨(quoL txl).toArray⟩ : ByteArray).size = (quoL txl).length := by show (quoL txl).toArray.size = _; simp
              rw [hsr] at HJ hol
              obtain ⟨o2, ho2⟩ : ∃ o2 : ByteArray, o2 = o1 ++ (⟨(quoL txl).toArray⟩ : ByteArray) := ⟨_, rfl⟩
              have HN := Lib.hid (show o2 = ⟨(joinM false (L.take (j + 1))).toArray⟩ by rw [ho2, HJ.out, ho1e, ← List.append_assoc]; exact app_str _ _)
              have s2 : ∀ w, (Op.stringOp .add o1 (⟨(quoL txl).toArray⟩ : ByteArray)).run Tryd.prog w = .ok (.string o2) w := fun w => by rw [ho2]; exact run_string_add_sum w o1 (⟨(quoL txl).toArray⟩ : ByteArray) (by rw [hSs, ho1s]; first | omega | (simp at hol; omega))
              have h0I : (0 : Int) < (j : Int) := by omega
              obtain ⟨b2, off2, e2, h22, d0, d1, d2⟩ := Y.out h0
              obtain ⟨rfl, rfl⟩ : b1 = b2 ∧ off1 = off2 := by cases e2; exact ⟨rfl, rfl⟩
              have y0 := (HB.out.cell (p := ⟨b1, _, none⟩) h22).trans d0
              have hji : (0 : Int) ≤ (j : Int) - 1 ∧ (j : Int) - 1 < (L.length : Int) := by omega
              have hjn : ((j : Int) - 1).toNat = j - 1 := by omega
              clear d0 d1 d2 e2
              rw [hkp] at y0
              clear hsl hsc hsrc hsr hol HJ HO ho1e ho1s ho2 hSs hts htd htx hxj HO1 Y
              clear hns
              subst ho1
              clear hkp
              clear h0
              go_wp2_with fail
              go_fit (F.out _)
              rintro e w1 ⟨rfl, hbb⟩
              have B1 := Lib.hid (HB.out.trans (hbb.mono HB.out.size))
              clear hbb
              go_wp2_with fail
              exact ⟨⟨j + 1, _, by omega, by go_num, rfl, HN, B1⟩, by simp [RowKit.intOf]; omega⟩
            · have hns : ¬ (0 < j ∧ L[j - 1].kind ≠ 5 ∧ kd ≠ 5) := fun h => h.2.1 hkp
              have hsl : sepL (lastP false (L.take j)) kd = [] := by rw [hsc, if_neg hns]
              obtain ⟨o1, ho1⟩ : ∃ o1 : ByteArray, o1 = o := ⟨_, rfl⟩
              have ho1e : o1 = ⟨(joinM false (L.take j) ++ []).toArray⟩ := by rw [ho1, HO1, List.append_nil]
              have ho1s : o1.size = o.size := by rw [ho1]
              rw [← ho1] at HO
              rw [hsl] at HJ hol
              have hsr : srcM L[j] = txl := by rw [hsrc, if_neg h3, if_neg h5]
              have hSs := hts
              rw [hsr] at HJ hol
              obtain ⟨o2, ho2⟩ : ∃ o2 : ByteArray, o2 = o1 ++ tx := ⟨_, rfl⟩
              have HN := Lib.hid (show o2 = ⟨(joinM false (L.take (j + 1))).toArray⟩ by rw [ho2, HJ.out, ho1e, htx, ← List.append_assoc]; exact app_str _ _)
              have s2 : ∀ w, (Op.stringOp .add o1 tx).run Tryd.prog w = .ok (.string o2) w := fun w => by rw [ho2]; exact run_string_add_sum w o1 tx (by rw [hSs, ho1s]; first | omega | (simp at hol; omega))
              have h0I : (0 : Int) < (j : Int) := by omega
              obtain ⟨b2, off2, e2, h22, d0, d1, d2⟩ := Y.out h0
              obtain ⟨rfl, rfl⟩ : b1 = b2 ∧ off1 = off2 := by cases e2; exact ⟨rfl, rfl⟩
              have y0 := (HB.out.cell (p := ⟨b1, _, none⟩) h22).trans d0
              have hji : (0 : Int) ≤ (j : Int) - 1 ∧ (j : Int) - 1 < (L.length : Int) := by omega
              have hjn : ((j : Int) - 1).toNat = j - 1 := by omega
              clear d0 d1 d2 e2
              rw [hkp] at y0
              have g1 : (kd != 5) = true := by rw [bne_iff_ne]; exact h5
              have g3 : (kd == 3) = false := by rw [beq_eq_false_iff_ne]; exact h3
              have g5 : (kd == 5) = false := by rw [beq_eq_false_iff_ne]; exact h5
              clear hsl hsc hsrc hsr hol HJ HO ho1e ho1s ho2 hSs hts htd htx hxj HO1 Y
              clear h3 h5
              clear hns
              subst ho1
              clear hkp
              clear h0
              go_wp2_with fail
              exact ⟨⟨j + 1, _, by omega, by go_num, rfl, HN, HB⟩, by simp [RowKit.intOf]; omega⟩
          · rcases (show kd = 3 ∨ (kd ≠ 3 ∧ kd ≠ 5) by omega) with rfl | ⟨h3, h5b⟩
            · have h5 : (3 : Int) ≠ 5 := by decide
              have hsl : sepL (lastP false (L.take j)) (3 : Int) = [32] := by rw [hsc, if_pos ⟨h0, hkp, h5⟩]
              obtain ⟨o1, ho1⟩ : ∃ o1 : ByteArray, o1 = o ++ ⟨#[32]⟩ := ⟨_, rfl⟩
              have ho1e : o1 = ⟨(joinM false (L.take j) ++ [32]).toArray⟩ := by rw [ho1, HO1]; exact app_str _ [32]
              have s1 : ∀ w, (Op.stringOp .add o ⟨#[32]⟩).run Tryd.prog w = .ok (.string o1) w := fun w => by rw [ho1]; exact run_string_add_sum w o ⟨#[32]⟩ (by show o.size + 1 ≤ _; omega)
              have ho1s : o1.size = o.size + 1 := by rw [ho1]; exact ByteArray.size_append
              rw [hsl] at HJ hol
              have hsr : srcM L[j] = quoL txl := by rw [hsrc, if_pos rfl]
              have F := Lib.hid (fun w => rQuote_any tx (by omega) w)
              rw [htd] at F
              have hSs : (⟨(quoL txl).toArray⟩ : ByteArray).size = (quoL txl).length := by show (quoL txl).toArray.size = _; simp
              rw [hsr] at HJ hol
              obtain ⟨o2, ho2⟩ : ∃ o2 : ByteArray, o2 = o1 ++ (⟨(quoL txl).toArray⟩ : ByteArray) := ⟨_, rfl⟩
              have HN := Lib.hid (show o2 = ⟨(joinM false (L.take (j + 1))).toArray⟩ by rw [ho2, HJ.out, ho1e, ← List.append_assoc]; exact app_str _ _)
              have s2 : ∀ w, (Op.stringOp .add o1 (⟨(quoL txl).toArray⟩ : ByteArray)).run Tryd.prog w = .ok (.string o2) w := fun w => by rw [ho2]; exact run_string_add_sum w o1 (⟨(quoL txl).toArray⟩ : ByteArray) (by rw [hSs, ho1s]; first | omega | (simp at hol; omega))
              have h0I : (0 : Int) < (j : Int) := by omega
              obtain ⟨b2, off2, e2, h22, d0, d1, d2⟩ := Y.out h0
              obtain ⟨rfl, rfl⟩ : b1 = b2 ∧ off1 = off2 := by cases e2; exact ⟨rfl, rfl⟩
              have y0 := (HB.out.cell (p := ⟨b1, _, none⟩) h22).trans d0
              have hji : (0 : Int) ≤ (j : Int) - 1 ∧ (j : Int) - 1 < (L.length : Int) := by omega
              have hjn : ((j : Int) - 1).toNat = j - 1 := by omega
              clear d0 d1 d2 e2
              obtain ⟨kp, hkpe⟩ : ∃ kp, kp = L[j - 1].kind := ⟨_, rfl⟩
              rw [← hkpe] at y0 hkp
              have g2 : (kp != 5) = true := by rw [bne_iff_ne]; exact hkp
              clear hsl hsc hsrc hsr hol HJ HO ho1e ho1s ho2 hSs hts htd htx hxj HO1 Y
              clear hkp ho1 hkpe
              clear h0
              go_wp2_with fail
              go_fit (F.out _)
              rintro e w1 ⟨rfl, hbb⟩
              have B1 := Lib.hid (HB.out.trans (hbb.mono HB.out.size))
              clear hbb
              go_wp2_with fail
              exact ⟨⟨j + 1, _, by omega, by go_num, rfl, HN, B1⟩, by simp [RowKit.intOf]; omega⟩
            · skip
              have hsl : sepL (lastP false (L.take j)) kd = [32] := by rw [hsc, if_pos ⟨h0, hkp, h5⟩]
              obtain ⟨o1, ho1⟩ : ∃ o1 : ByteArray, o1 = o ++ ⟨#[32]⟩ := ⟨_, rfl⟩
              have ho1e : o1 = ⟨(joinM false (L.take j) ++ [32]).toArray⟩ := by rw [ho1, HO1]; exact app_str _ [32]
              have s1 : ∀ w, (Op.stringOp .add o ⟨#[32]⟩).run Tryd.prog w = .ok (.string o1) w := fun w => by rw [ho1]; exact run_string_add_sum w o ⟨#[32]⟩ (by show o.size + 1 ≤ _; omega)
              have ho1s : o1.size = o.size + 1 := by rw [ho1]; exact ByteArray.size_append
              rw [hsl] at HJ hol
              have hsr : srcM L[j] = txl := by rw [hsrc, if_neg h3, if_neg h5]
              have hSs := hts
              rw [hsr] at HJ hol
              obtain ⟨o2, ho2⟩ : ∃ o2 : ByteArray, o2 = o1 ++ tx := ⟨_, rfl⟩
              have HN := Lib.hid (show o2 = ⟨(joinM false (L.take (j + 1))).toArray⟩ by rw [ho2, HJ.out, ho1e, htx, ← List.append_assoc]; exact app_str _ _)
              have s2 : ∀ w, (Op.stringOp .add o1 tx).run Tryd.prog w = .ok (.string o2) w := fun w => by rw [ho2]; exact run_string_add_sum w o1 tx (by rw [hSs, ho1s]; first | omega | (simp at hol; omega))
              have h0I : (0 : Int) < (j : Int) := by omega
              obtain ⟨b2, off2, e2, h22, d0, d1, d2⟩ := Y.out h0
              obtain ⟨rfl, rfl⟩ : b1 = b2 ∧ off1 = off2 := by cases e2; exact ⟨rfl, rfl⟩
              have y0 := (HB.out.cell (p := ⟨b1, _, none⟩) h22).trans d0
              have hji : (0 : Int) ≤ (j : Int) - 1 ∧ (j : Int) - 1 < (L.length : Int) := by omega
              have hjn : ((j : Int) - 1).toNat = j - 1 := by omega
              clear d0 d1 d2 e2
              obtain ⟨kp, hkpe⟩ : ∃ kp, kp = L[j - 1].kind := ⟨_, rfl⟩
              rw [← hkpe] at y0 hkp
              have g2 : (kp != 5) = true := by rw [bne_iff_ne]; exact hkp
              have g1 : (kd != 5) = true := by rw [bne_iff_ne]; exact h5
              have g3 : (kd == 3) = false := by rw [beq_eq_false_iff_ne]; exact h3
              have g5 : (kd == 5) = false := by rw [beq_eq_false_iff_ne]; exact h5
              clear hsl hsc hsrc hsr hol HJ HO ho1e ho1s ho2 hSs hts htd htx hxj HO1 Y
              clear h3 h5
              clear hkp ho1 hkpe
              clear h0
              go_wp2_with fail
              exact ⟨⟨j + 1, _, by omega, by go_num, rfl, HN, HB⟩, by simp [RowKit.intOf]; omega⟩
    · obtain rfl : j = L.length := by omega
      have ho := HO.out
      rw [List.take_length] at ho
      clear HO
      go_wp2_with fail
      go_ret
      exact ⟨by rw [ho]; rfl, HB.out⟩
end Go.Proofs.YtoliiiijbdoliaaDoor
