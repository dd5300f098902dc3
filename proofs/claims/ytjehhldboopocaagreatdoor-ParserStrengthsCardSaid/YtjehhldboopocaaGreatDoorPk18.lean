/- Contracts of functions of the program, and what they are made of (parser; Pk18). -/
import Derived.Test.YtjehhldboopocaaGreatDoorPk17
namespace Go.Proofs.YtjehhldboopocaaGreatDoor.Lx
open Go.RowKit Go.Lib
set_option linter.unusedVariables false
theorem isBF_below {T e : TypeId} {B b : Nat} {bs : List Value} {w w' : World} (h : Lib.IsBuilderF T e B b bs w) (hb : Below w.heap.size w w') : Lib.IsBuilderF T e B b bs w' := by
  rcases h with ⟨h1, v, h2, h3, h4⟩ | ⟨h1, v, h2, h3, h4⟩
  · exact .inl ⟨h1, v, (hb.block b (Array.getElem?_eq_some_iff.1 h2).1).trans h2, h3.kept (grown_of_below hb none) (by cases v.ownBlock <;> simp), h4⟩
  · exact .inr ⟨h1, v, (hb.block b (Array.getElem?_eq_some_iff.1 h2).1).trans h2, h3.kept (grown_of_below hb none) (by cases v.ownBlock <;> simp), h4⟩
set_option maxHeartbeats 2000000 in
theorem Tokens_long (s : ByteArray) (h : 65536 < s.size) (w : World) :
    Calls Tryz.prog 25 #[.string s] w fun e w' => e = .returned (.tuple #[.slice none 0 0, .int .i64 0, .int .i64 3]) ∧ Below w.heap.size w w' := by
  have hI : (65536 : Int) < (s.size : Int) := by omega
  clear h
  go_enter Tryz.func25, Tryz.ntmps25
  go_wp2_with fail
  go_ret3
  exact ⟨rfl, Below.refl _ _⟩
/-- The builder of Join. -/
def BJ (B : Nat) (l : List UInt8) (w : World) : Prop := Lib.IsBuilderF 146 5 B B (Lib.byteCells l) w
theorem sep_case (l : List Tm) (i : Nat) (h : i < l.length) : sepL (lastP false (l.take i)) l[i].kind = if 0 < i ∧ l[i - 1].kind ≠ 5 ∧ l[i].kind ≠ 5 then [32] else [] := by
  rw [lastP_take l i h]
  unfold sepL
  by_cases h0 : 0 < i <;> by_cases h1 : l[i - 1].kind = 5 <;> by_cases h2 : l[i].kind = 5 <;> simp [h0, h1, h2]
set_option maxHeartbeats 8000000 in
set_option maxRecDepth 100000 in
theorem Join_any (a : Option Addr) (cap : Nat) (L : List Tm) (hl : L.length ≤ 1099511627776) (hm : (joinM false L).length ≤ 140737488351232) (w : World) (hr : ReadsK w a L) :
    Calls Tryz.prog 126 #[.slice a L.length cap] w fun e w' => e = .returned (.string ⟨(joinM false L).toArray⟩) ∧ Below w.heap.size w w' := by
  have HR := Lib.hid hr
  have HM := Lib.hid hm
  have B0 := Lib.hid ((Below.refl w.heap.size w).alloc (Nat.le_refl _) (Obj.cells #[.pointer none, .slice none 0 0] 146))
  have J0 := Lib.hid (show BJ w.heap.size (joinM false (L.take 0)) (w.alloc (Obj.cells #[.pointer none, .slice none 0 0] 146)) from Lib.IsBuilderF.of (Lib.fresh_isBuilder _ _ w))
  clear hr hm
  go_enter Tryz.func126, Tryz.ntmps126
  go_wp2_with fail
  go_loopw [8] (fun s9 wr => ∃ j : Nat, j ≤ L.length ∧ s9 = .int .i64 (j : Int) ∧ Hid (BJ w.heap.size (joinM false (L.take j)) wr) ∧ Hid (Below w.heap.size w wr)) (fun s9 _ => L.length - (RowKit.intOf s9).toNat)
  case atStart => exact ⟨0, by omega, rfl, J0, B0⟩
  case round =>
    obtain ⟨j, hj, rfl, HJ, HB⟩ := hrel
    clear J0 B0
    have hbw : w.heap.size ≤ wr.heap.size := HB.out.size
    by_cases hlt : j < L.length
    · obtain ⟨b1, off1, rfl, h2', c0, c1, c2⟩ := HR.out j hlt
      have p0 := (HB.out.cell (p := ⟨b1, _, none⟩) h2').trans c0
      have p1 := (HB.out.cell (p := ⟨b1, _, none⟩) h2').trans c1
      have p2 := (HB.out.cell (p := ⟨b1, _, none⟩) h2').trans c2
      have hjI : (0 : Int) ≤ (j : Int) ∧ (j : Int) < (L.length : Int) := by omega
      have hjj := joinM_take L j hlt
      have hmo := joinM_mono L (j + 1)
      rw [hjj, List.length_append, List.length_append] at hmo
      have hm := HM.out
      have hsc := sep_case L j hlt
      have S := Lib.hid (fun w' => source_any L[j] (by omega) w')
      clear c0 c1 c2
      obtain ⟨kd, hkd⟩ : ∃ kd, kd = L[j].kind := ⟨_, rfl⟩
      obtain ⟨tx, htx⟩ : ∃ tx : ByteArray, tx = ⟨(L[j].text).toArray⟩ := ⟨_, rfl⟩
      obtain ⟨ps, hps⟩ : ∃ ps, ps = L[j].pos := ⟨_, rfl⟩
      rw [← hkd] at p0 hsc
      rw [← htx] at p1
      rw [← hps] at p2
      have S2 := S.out
      rw [← hkd, ← htx, ← hps] at S2
      obtain ⟨sc, hscM⟩ : ∃ sc, sc = srcM L[j] := ⟨_, rfl⟩
      rw [← hscM] at S2 hjj hmo
      have S3 := Lib.hid S2
      rw [← hkd] at hjj
      have HJJ := Lib.hid hjj
      have hszs : (⟨sc.toArray⟩ : ByteArray).size = sc.length := by show sc.toArray.size = _; simp
      have TB := Lib.hid (HB.out.alloc hbw (Obj.cells #[.int .i64 kd, .string tx, .int .i64 ps] 52))
      have HJ1 := Lib.hid (show BJ w.heap.size (joinM false (L.take j)) (wr.alloc (Obj.cells #[.int .i64 kd, .string tx, .int .i64 ps] 52)) from Lib.IsBuilderF.alloc HJ.out _)
      have hmo2 : (joinM false (L.take j)).length + sc.length ≤ 140737488351232 := by omega
      have hwlt : w.heap.size < wr.heap.size := HJ.out.elim (fun h => h.lt) (fun h => h.lt)
      clear hmo hm hkd htx hps hscM S S2 hjj HJ HM
      by_cases hsep : 0 < j ∧ kd ≠ 5 ∧ L[j - 1].kind ≠ 5
      · obtain ⟨h0, h1, h2⟩ := hsep
        have HSC := Lib.hid (show sepL (lastP false (L.take j)) kd = [32] from by rw [hsc, if_pos ⟨h0, h2, h1⟩])
        have h0I : (0 : Int) < (j : Int) := by omega
        have hj1 : j - 1 < L.length := by omega
        obtain ⟨b2, off2, e2, h22, d0, d1, d2⟩ := HR.out (j - 1) hj1
        obtain ⟨rfl, rfl⟩ : b1 = b2 ∧ off1 = off2 := by cases e2; exact ⟨rfl, rfl⟩
        have y0 := (HB.out.cell (p := ⟨b1, _, none⟩) h22).trans d0
        obtain ⟨kp, hkp⟩ : ∃ kp, kp = L[j - 1].kind := ⟨_, rfl⟩
        rw [← hkp] at y0 h2
        have g1 : (kd != 5) = true := by rw [bne_iff_ne]; exact h1
        have g2 : (kp != 5) = true := by rw [bne_iff_ne]; exact h2
        have hji : (0 : Int) ≤ (j : Int) - 1 ∧ (j : Int) - 1 < (L.length : Int) := by omega
        have hjn : ((j : Int) - 1).toNat = j - 1 := by omega
        have hb1 : b1 < wr.heap.size := Nat.lt_of_lt_of_le h2' HB.out.size
        have y1 : (wr.alloc (Obj.cells #[.int .i64 kd, .string tx, .int .i64 ps] 52)).cell? ⟨b1, off1 + (j - 1) * 3, none⟩ = some (.int .i64 kp) := by simpa [go_sem, hb1, Nat.ne_of_lt hb1] using y0
        clear d0 d1 d2 e2 hkp h1 h2 h0 hsc
        go_wp2_with fail
        go_fit (Tryz.Builder_WriteByte_k w.heap.size w.heap.size (Lib.byteCells (joinM false (L.take j))) 32 _ HJ1.out (by rw [Lib.byteCells_length]; omega) TB.out.size)
        rintro e w1 ⟨rfl, hw1, hb1', hk1⟩
        have hbox := hk1 wr.heap.size _ (heap_alloc_new wr _) (by intro e; injection e with e; omega) (by intro c fz e; injection e with _ e _; exact absurd e (by decide))
        have JJ1 : BJ w.heap.size (joinM false (L.take j) ++ [32]) w1 := .inr (by rw [byteCells_app]; exact hw1)
        have J1 := Lib.hid JJ1
        have B1 := Lib.hid (TB.out.trans hb1')
        have q0 : w1.cell? ⟨wr.heap.size, 0, none⟩ = some (.int .i64 kd) := by simp [World.cell?, hbox]
        have q1 : w1.cell? ⟨wr.heap.size, 1, none⟩ = some (.string tx) := by simp [World.cell?, hbox]
        have q2 : w1.cell? ⟨wr.heap.size, 2, none⟩ = some (.int .i64 ps) := by simp [World.cell?, hbox]
        clear hw1 hb1' hk1 hbox JJ1 TB HJ1 p0 p1 p2 y0 y1
        go_wp2_with fail
        go_fit (S3.out _)
        rintro e w2 ⟨rfl, hb2⟩
        have JJ2 := isBF_below J1.out hb2
        have B2 := Lib.hid (B1.out.trans (hb2.mono B1.out.size))
        have hbw2 : w.heap.size ≤ w2.heap.size := B2.out.size
        have WS := Lib.hid (Tryz.Builder_WriteString_k w.heap.size w.heap.size (Lib.byteCells (joinM false (L.take j) ++ [32])) ⟨sc.toArray⟩ w2 JJ2 (by rw [Lib.byteCells_length, List.length_append, hszs]; simp; omega) hbw2)
        clear hb2 JJ2
        go_wp2_with fail
        go_fit WS.out
        rintro e w3 ⟨rfl, h1, hb3, _⟩
        have B3 := Lib.hid (B2.out.trans hb3)
        have J3 := Lib.hid (show BJ w.heap.size (joinM false (L.take (j + 1))) w3 from by
          refine .inr ?_
          rw [HJJ.out, HSC.out, ← List.append_assoc, byteCells_app]
          exact h1)
        clear h1 hb3 WS
        go_wp2_with fail
        exact ⟨⟨j + 1, by omega, by go_num, J3, B3⟩, by simp [RowKit.intOf]; omega⟩
      · have HSC := Lib.hid (show sepL (lastP false (L.take j)) kd = [] from by rw [hsc, if_neg (fun h => hsep ⟨h.1, h.2.2, h.2.1⟩)])
        have J0 : BJ w.heap.size (joinM false (L.take j) ++ []) (wr.alloc (Obj.cells #[.int .i64 kd, .string tx, .int .i64 ps] 52)) := by rw [List.append_nil]; exact HJ1.out
        have J1 := Lib.hid J0
        clear J0 HJ1
        by_cases h0 : 0 < j
        · have h0I : (0 : Int) < (j : Int) := by omega
          by_cases h1 : kd = 5
          · have g1 : (kd != 5) = false := by rw [bne_eq_false_iff_eq]; exact h1
            clear h1 h0 hsc hsep
            go_wp2_with fail
            go_fit (S3.out _)
            rintro e w2 ⟨rfl, hb2⟩
            have JJ2 := isBF_below J1.out hb2
            have B2 := Lib.hid (TB.out.trans (hb2.mono TB.out.size))
            have hbw2 : w.heap.size ≤ w2.heap.size := B2.out.size
            have WS := Lib.hid (Tryz.Builder_WriteString_k w.heap.size w.heap.size (Lib.byteCells (joinM false (L.take j) ++ [])) ⟨sc.toArray⟩ w2 JJ2 (by rw [Lib.byteCells_length, List.length_append, hszs]; simp; omega) hbw2)
            clear hb2 JJ2
            go_wp2_with fail
            go_fit WS.out
            rintro e w3 ⟨rfl, h1, hb3, _⟩
            have B3 := Lib.hid (B2.out.trans hb3)
            have J3 := Lib.hid (show BJ w.heap.size (joinM false (L.take (j + 1))) w3 from by
              refine .inr ?_
              rw [HJJ.out, HSC.out, ← List.append_assoc, byteCells_app]
              exact h1)
            clear h1 hb3 WS
            go_wp2_with fail
            exact ⟨⟨j + 1, by omega, by go_num, J3, B3⟩, by simp [RowKit.intOf]; omega⟩
          · have hj1 : j - 1 < L.length := by omega
            obtain ⟨b2, off2, e2, h22, d0, d1, d2⟩ := HR.out (j - 1) hj1
            obtain ⟨rfl, rfl⟩ : b1 = b2 ∧ off1 = off2 := by cases e2; exact ⟨rfl, rfl⟩
            have y0 := (HB.out.cell (p := ⟨b1, _, none⟩) h22).trans d0
            have h2 : L[j - 1].kind = 5 := Classical.byContradiction fun h => hsep ⟨h0, h1, h⟩
            rw [h2] at y0
            have g1 : (kd != 5) = true := by rw [bne_iff_ne]; exact h1
            have hji : (0 : Int) ≤ (j : Int) - 1 ∧ (j : Int) - 1 < (L.length : Int) := by omega
            have hjn : ((j : Int) - 1).toNat = j - 1 := by omega
            have hb1 : b1 < wr.heap.size := Nat.lt_of_lt_of_le h2' HB.out.size
            have y1 : (wr.alloc (Obj.cells #[.int .i64 kd, .string tx, .int .i64 ps] 52)).cell? ⟨b1, off1 + (j - 1) * 3, none⟩ = some (.int .i64 5) := by simpa [go_sem, hb1, Nat.ne_of_lt hb1] using y0
            clear d0 d1 d2 e2 h1 h2 h0 hsc hsep
            go_wp2_with fail
            go_fit (S3.out _)
            rintro e w2 ⟨rfl, hb2⟩
            have JJ2 := isBF_below J1.out hb2
            have B2 := Lib.hid (TB.out.trans (hb2.mono TB.out.size))
            have hbw2 : w.heap.size ≤ w2.heap.size := B2.out.size
            have WS := Lib.hid (Tryz.Builder_WriteString_k w.heap.size w.heap.size (Lib.byteCells (joinM false (L.take j) ++ [])) ⟨sc.toArray⟩ w2 JJ2 (by rw [Lib.byteCells_length, List.length_append, hszs]; simp; omega) hbw2)
            clear hb2 JJ2
            go_wp2_with fail
            go_fit WS.out
            rintro e w3 ⟨rfl, h1, hb3, _⟩
            have B3 := Lib.hid (B2.out.trans hb3)
            have J3 := Lib.hid (show BJ w.heap.size (joinM false (L.take (j + 1))) w3 from by
              refine .inr ?_
              rw [HJJ.out, HSC.out, ← List.append_assoc, byteCells_app]
              exact h1)
            clear h1 hb3 WS
            go_wp2_with fail
            exact ⟨⟨j + 1, by omega, by go_num, J3, B3⟩, by simp [RowKit.intOf]; omega⟩
        · have h0I : ¬ (0 : Int) < (j : Int) := by omega
          clear h0 hsc hsep
          go_wp2_with fail
          go_fit (S3.out _)
          rintro e w2 ⟨rfl, hb2⟩
          have JJ2 := isBF_below J1.out hb2
          have B2 := Lib.hid (TB.out.trans (hb2.mono TB.out.size))
          have hbw2 : w.heap.size ≤ w2.heap.size := B2.out.size
          have WS := Lib.hid (Tryz.Builder_WriteString_k w.heap.size w.heap.size (Lib.byteCells (joinM false (L.take j) ++ [])) ⟨sc.toArray⟩ w2 JJ2 (by rw [Lib.byteCells_length, List.length_append, hszs]; simp; omega) hbw2)
          clear hb2 JJ2
          go_wp2_with fail
          go_fit WS.out
          rintro e w3 ⟨rfl, h1, hb3, _⟩
          have B3 := Lib.hid (B2.out.trans hb3)
          have J3 := Lib.hid (show BJ w.heap.size (joinM false (L.take (j + 1))) w3 from by
            refine .inr ?_
            rw [HJJ.out, HSC.out, ← List.append_assoc, byteCells_app]
            exact h1)
          clear h1 hb3 WS
          go_wp2_with fail
          exact ⟨⟨j + 1, by omega, by go_num, J3, B3⟩, by simp [RowKit.intOf]; omega⟩
    · obtain rfl : j = L.length := by omega
      have hjI : ¬ (L.length : Int) < (L.length : Int) := by omega
      have HJ2 := HJ.out
      rw [List.take_length] at HJ2
      have SB := Lib.hid (Tryz.Builder_String_any_k w.heap.size w.heap.size (joinM false L) wr HJ2 hbw)
      clear hlt HJ2
      go_wp2_with fail
      go_fit SB.out
      rintro e w1 ⟨rfl, _, hb, _⟩
      have B1 := Lib.hid (HB.out.trans hb)
      clear hb
      go_wp2_with fail
      go_ret
      exact ⟨rfl, B1.out⟩
end Go.Proofs.YtjehhldboopocaaGreatDoor.Lx
