/- Contracts of functions of the program, and what they are made of (parser; Pk27). -/
import Derived.Test.YtjehhldboopocaaGreatDoorPk17
import Derived.Test.YtjehhldboopocaaGreatDoorPk25
import Derived.Test.YtjehhldboopocaaGreatDoorPk26
import Derived.Deep.OwnRows
import Derived.Deep.RegionWith
namespace Go.Proofs.YtjehhldboopocaaGreatDoor.Lx
open Go.RowKit Go.Lib
set_option linter.unusedVariables false
def EqP (m : Nat) : Prop := ∀ (C D : List Value) (x y : Xp) (w : World), IsE m w C x → IsE m w D y →
  Calls Tryz.prog 22 #[.agg C.toArray, .agg D.toArray] w fun e w' => e = .returned (.bool (eqE m x y)) ∧ Below w.heap.size w w'
/-- The cells of an expression, by their shapes. -/
theorem isE_cells {m : Nat} {w : World} {C : List Value} {x : Xp} (h : IsE m w C x) : ∃ k n vk vt vi vs va vb vc wa wb wc aa ab ac ba bb bc,
    C = [.int .i64 k, .string n, .int .i64 vk, .bool vt, .int .i64 vi, .string vs, .slice va vb vc, .slice wa wb wc, .slice aa ab ac, .slice ba bb bc] := by
  obtain ⟨k, n, vk, vt, vi, vs, vl, vks, vav, vc, vkv, vkc, l, ks, av, c, kv, kc, rfl, rfl, _⟩ := h
  exact ⟨_, _, _, _, _, _, _, _, _, _, _, _, _, _, _, _, _, _, rfl⟩

set_option maxRecDepth 100000 in
set_option maxHeartbeats 8000000 in
theorem eqArgs_any (m : Nat) (f : Xp → Xp → Bool) (IH : ∀ m', m = m' + 1 → f = eqE m' ∧ EqP m') (av bv : Option Addr) (ca cb : Nat) (K L : List Xp) (hK : K.length ≤ 9223372036854775000) (hL : L.length ≤ 9223372036854775000) (w : World) (hr : ReadsE m w av K) (hs : ReadsE m w bv L) :
    Calls Tryz.prog 39 #[.slice av K.length ca, .slice bv L.length cb, .func (.func 22) #[] #[]] w fun e w' => e = .returned (.bool (eqL f K L)) ∧ Below w.heap.size w w' := by
  have HR := Lib.hid hr
  have HS := Lib.hid hs
  have HI := Lib.hid IH
  obtain ⟨r, hr'⟩ : ∃ r, r = eqL f K L := ⟨_, rfl⟩
  rw [← hr']
  clear hr hs IH
  by_cases hlen : K.length = L.length
  · have g : ((K.length : Int) == (L.length : Int)) = true := by rw [beq_iff_eq]; omega
    have g2 : ((K.length : Int) != (L.length : Int)) = false := by rw [bne, g]; rfl
    have E := Lib.hid hr'
    have HLEN := Lib.hid hlen
    clear hr'
    go_enter Tryz.func39, Tryz.ntmps39
    go_wp2_with fail
    go_loopw [17] (fun s13 wr => ∃ i : Nat, i ≤ K.length ∧ s13 = .int .i64 i ∧ r = eqL f (K.drop i) (L.drop i) ∧ Below w.heap.size w wr) (fun s13 _ => K.length - (RowKit.intOf s13).toNat)
    case atStart => exact ⟨0, by omega, rfl, E.out, Below.refl _ _⟩
    case round =>
      obtain ⟨i, hi, rfl, hd, hbel⟩ := hrel
      have HD := Lib.hid hd
      have HB := Lib.hid hbel
      have hwr := hbel.size
      clear hd hbel g g2
      by_cases hlt : i < K.length
      · have hlt2 : i < L.length := by omega
        cases m with
        | zero =>
          have h0 : K = [] := HR.out
          rw [h0] at hlt
          exact absurd hlt (by simp)
        | succ m =>
          obtain ⟨b, off, C, rfl, hb, hc, hcell⟩ := HR.out i K[i] (List.getElem?_eq_getElem hlt)
          obtain ⟨b2, off2, D, rfl, hb2, hd, hcell2⟩ := HS.out i L[i] (List.getElem?_eq_getElem hlt2)
          have hcE : IsE m w C K[i] := hc
          have hdE : IsE m w D L[i] := hd
          obtain ⟨hf, hEq⟩ := HI.out m rfl
          have h1 := eqL_drop (f := f) K L i hlt hlt2
          have i0 : (0 : Int) ≤ (i : Int) := by omega
          have i1 : (i : Int) < (K.length : Int) := by omega
          have i2 : (i : Int) < (L.length : Int) := by omega
          have F := Lib.hid (fun (w' : World) (hb : Below w.heap.size w w') => hEq C D K[i] L[i] w' (hcE.below hb) (hdE.below hb))
          rw [← hf] at F
          obtain ⟨q, hq⟩ : ∃ q, q = f K[i] L[i] := ⟨_, rfl⟩
          rw [← hq] at F h1
          obtain ⟨k1, n1, vk1, vt1, vi1, vs1, va1, vb1, vc1, wa1, wb1, wc1, aa1, ab1, ac1, ba1, bb1, bc1, hC⟩ := isE_cells hcE
          obtain ⟨k2, n2, vk2, vt2, vi2, vs2, va2, vb2, vc2, wa2, wb2, wc2, aa2, ab2, ac2, ba2, bb2, bc2, hD⟩ := isE_cells hdE
          subst hC hD
          have d1_0 := (HB.out.cell (p := ⟨b, _, none⟩) hb).trans (hcell 0 (.int .i64 k1) rfl)
          have d1_1 := (HB.out.cell (p := ⟨b, _, none⟩) hb).trans (hcell 1 (.string n1) rfl)
          have d1_2 := (HB.out.cell (p := ⟨b, _, none⟩) hb).trans (hcell 2 (.int .i64 vk1) rfl)
          have d1_3 := (HB.out.cell (p := ⟨b, _, none⟩) hb).trans (hcell 3 (.bool vt1) rfl)
          have d1_4 := (HB.out.cell (p := ⟨b, _, none⟩) hb).trans (hcell 4 (.int .i64 vi1) rfl)
          have d1_5 := (HB.out.cell (p := ⟨b, _, none⟩) hb).trans (hcell 5 (.string vs1) rfl)
          have d1_6 := (HB.out.cell (p := ⟨b, _, none⟩) hb).trans (hcell 6 (.slice va1 vb1 vc1) rfl)
          have d1_7 := (HB.out.cell (p := ⟨b, _, none⟩) hb).trans (hcell 7 (.slice wa1 wb1 wc1) rfl)
          have d1_8 := (HB.out.cell (p := ⟨b, _, none⟩) hb).trans (hcell 8 (.slice aa1 ab1 ac1) rfl)
          have d1_9 := (HB.out.cell (p := ⟨b, _, none⟩) hb).trans (hcell 9 (.slice ba1 bb1 bc1) rfl)
          have d2_0 := (HB.out.cell (p := ⟨b2, _, none⟩) hb2).trans (hcell2 0 (.int .i64 k2) rfl)
          have d2_1 := (HB.out.cell (p := ⟨b2, _, none⟩) hb2).trans (hcell2 1 (.string n2) rfl)
          have d2_2 := (HB.out.cell (p := ⟨b2, _, none⟩) hb2).trans (hcell2 2 (.int .i64 vk2) rfl)
          have d2_3 := (HB.out.cell (p := ⟨b2, _, none⟩) hb2).trans (hcell2 3 (.bool vt2) rfl)
          have d2_4 := (HB.out.cell (p := ⟨b2, _, none⟩) hb2).trans (hcell2 4 (.int .i64 vi2) rfl)
          have d2_5 := (HB.out.cell (p := ⟨b2, _, none⟩) hb2).trans (hcell2 5 (.string vs2) rfl)
          have d2_6 := (HB.out.cell (p := ⟨b2, _, none⟩) hb2).trans (hcell2 6 (.slice va2 vb2 vc2) rfl)
          have d2_7 := (HB.out.cell (p := ⟨b2, _, none⟩) hb2).trans (hcell2 7 (.slice wa2 wb2 wc2) rfl)
          have d2_8 := (HB.out.cell (p := ⟨b2, _, none⟩) hb2).trans (hcell2 8 (.slice aa2 ab2 ac2) rfl)
          have d2_9 := (HB.out.cell (p := ⟨b2, _, none⟩) hb2).trans (hcell2 9 (.slice ba2 bb2 bc2) rfl)
          rw [Nat.add_zero] at d1_0 d2_0
          have hbw : b < wr.heap.size := by omega
          have hb2w : b2 < wr.heap.size := by omega
          have HB1 := Lib.hid (show Below w.heap.size w ((wr.alloc (.cells #[.int .i64 k1, .string n1, .int .i64 vk1, .bool vt1, .int .i64 vi1, .string vs1, .slice va1 vb1 vc1, .slice wa1 wb1 wc1, .slice aa1 ab1 ac1, .slice ba1 bb1 bc1] 29)).alloc (.cells #[.int .i64 k2, .string n2, .int .i64 vk2, .bool vt2, .int .i64 vi2, .string vs2, .slice va2 vb2 vc2, .slice wa2 wb2 wc2, .slice aa2 ab2 ac2, .slice ba2 bb2 bc2] 29)) from (HB.out.alloc hwr _).alloc (by simp; omega) _)
          clear hcE hdE hc hd hcell hcell2 hq hf hEq hlen HI
          cases q
          · have G := Lib.hid (show r = false by rw [HD.out, h1, Bool.false_and])
            clear h1
            go_wp2_with fail
            go_fit (F.out _ HB1.out)
            rintro e w2 ⟨rfl, hb3⟩
            have HB2 := Lib.hid (HB1.out.trans (hb3.mono HB1.out.size))
            clear hb3
            go_wp2_with fail
            go_ret
            exact ⟨by rw [G.out]; rfl, HB2.out⟩
          · have G := Lib.hid (show r = eqL f (K.drop (i + 1)) (L.drop (i + 1)) by rw [HD.out, h1, Bool.true_and])
            clear h1
            go_wp2_with fail
            go_fit (F.out _ HB1.out)
            rintro e w2 ⟨rfl, hb3⟩
            have HB2 := Lib.hid (HB1.out.trans (hb3.mono HB1.out.size))
            clear hb3
            go_wp2_with fail
            exact ⟨⟨i + 1, by omega, by go_num, G.out, HB2.out⟩, by simp [RowKit.intOf]; omega⟩
      · obtain rfl : i = K.length := by omega
        have F := Lib.hid (show r = true by rw [HD.out]; exact eqL_end K L _ (Nat.le_refl _) (by omega))
        have hjI : ¬ (K.length : Int) < (K.length : Int) := by omega
        have hjI2 : ¬ (K.length : Int) < (L.length : Int) := by omega
        clear hlen
        go_wp2_with fail
        go_ret
        exact ⟨by rw [F.out]; rfl, HB.out⟩
  · have g : ((K.length : Int) == (L.length : Int)) = false := by rw [beq_eq_false_iff_ne]; omega
    have g2 : ((K.length : Int) != (L.length : Int)) = true := by rw [bne, g]; rfl
    have E := Lib.hid (show r = false by rw [hr', eqL_len K L hlen])
    clear hr' hlen
    go_enter Tryz.func39, Tryz.ntmps39
    go_wp2_with fail
    go_ret
    exact ⟨by rw [E.out]; rfl, Below.refl _ _⟩
end Go.Proofs.YtjehhldboopocaaGreatDoor.Lx
namespace Go.Proofs.YtjehhldboopocaaGreatDoor.Lx
open Go.RowKit Go.Lib
set_option linter.unusedVariables false
/-- What stands in the row when j items are there. -/
def rowT (T : Xp → ByteArray) (l : List Xp) (j i : Nat) : Value := .string (if i < j then ((l[i]?).map T).getD ⟨#[]⟩ else ⟨#[]⟩)
theorem emp_app (t : ByteArray) : (⟨#[]⟩ : ByteArray) ++ t = t := by
  apply ByteArray.ext
  show _ = t.data
  simp
theorem rowT_step {T : Xp → ByteArray} {l : List Xp} {j g : Nat} {t : ByteArray} {W : World} (h : W.rowIs g 9 l.length (rowT T l j)) (hlt : j < l.length) (ht : t = T l[j]) : (W.setCell ⟨g, j, none⟩ (.string ((⟨#[]⟩ : ByteArray) ++ t))).rowIs g 9 l.length (rowT T l (j + 1)) :=
  (h.set j _).congr fun i hi => by
    by_cases e : i = j
    · subst e
      rw [if_pos rfl, emp_app, ht]
      unfold rowT
      rw [if_pos (by omega), List.getElem?_eq_getElem hlt]
      rfl
    · rw [if_neg e]
      unfold rowT
      by_cases h1 : i < j
      · rw [if_pos h1, if_pos (by omega)]
      · rw [if_neg h1, if_neg (by omega)]
set_option maxRecDepth 100000 in
set_option maxHeartbeats 4000000 in
theorem items_list (m : Nat) (T : Xp → ByteArray) (k : Int) (nx : ByteArray) (vk : Int) (vt : Bool) (vi : Int) (vs : ByteArray) (s1 s2 av s4 : Option Addr) (a1 b1 a2 b2 c a4 b4 : Nat) (l : List Xp) (w : World) (hk : (k == 10) = false)
    (hl : l.length ≤ 4096) (hr : ReadsE (m + 1) w av l) (hS : ∀ C y, y ∈ l → IsE m w C y → SrcC w C (T y)) (hT : ∀ y, y ∈ l → (T y).size ≤ 4611686018427387904)
    (hlen : (Lib.join (l.map fun y => (T y).data.toList) [44, 32]).length ≤ 140737488355328) :
    Calls Tryz.prog 65 #[.agg #[.int .i64 k, .string nx, .int .i64 vk, .bool vt, .int .i64 vi, .string vs, .slice s1 a1 b1, .slice s2 a2 b2, .slice av l.length c, .slice s4 a4 b4]] w fun e w' => e = .returned (.string ⟨(Lib.join (l.map fun y => (T y).data.toList) [44, 32]).toArray⟩) ∧ Below w.heap.size w w' := by
  have hmk := Go.run_make_row' (P := Tryz.prog) 24 9 (.string ⟨#[]⟩) 16 Tryz.underlying24 (by kernel_rfl) rfl .i64 .i64 l.length (by omega) (by omega) (w.alloc (.cells #[.int .i64 k, .string nx, .int .i64 vk, .bool vt, .int .i64 vi, .string vs, .slice s1 a1 b1, .slice s2 a2 b2, .slice av l.length c, .slice s4 a4 b4] 29))
  have HR := Lib.hid hr
  have HS := Lib.hid hS
  have HT := Lib.hid hT
  have HLN := Lib.hid hlen
  have hr0 := World.rowIs_made (w.alloc (.cells #[.int .i64 k, .string nx, .int .i64 vk, .bool vt, .int .i64 vi, .string vs, .slice s1 a1 b1, .slice s2 a2 b2, .slice av l.length c, .slice s4 a4 b4] 29)) (.string ⟨#[]⟩) l.length 9
  have B1 := Lib.hid (((Below.refl w.heap.size w).alloc (Nat.le_refl _) (.cells #[.int .i64 k, .string nx, .int .i64 vk, .bool vt, .int .i64 vi, .string vs, .slice s1 a1 b1, .slice s2 a2 b2, .slice av l.length c, .slice s4 a4 b4] 29)).alloc (by simp) (.cells (madeCells #[.string ⟨#[]⟩] l.length) 9))
  have C1 := Lib.hid ((CellsAt.new w 29 #[.int .i64 k, .string nx, .int .i64 vk, .bool vt, .int .i64 vi, .string vs, .slice s1 a1 b1, .slice s2 a2 b2, .slice av l.length c, .slice s4 a4 b4]).alloc (.cells (madeCells #[.string ⟨#[]⟩] l.length) 9))
  obtain ⟨W1, hW1⟩ : ∃ W1, W1 = (w.alloc (.cells #[.int .i64 k, .string nx, .int .i64 vk, .bool vt, .int .i64 vi, .string vs, .slice s1 a1 b1, .slice s2 a2 b2, .slice av l.length c, .slice s4 a4 b4] 29)).alloc (.cells (madeCells #[.string ⟨#[]⟩] l.length) 9) := ⟨_, rfl⟩
  rw [← hW1] at hmk hr0 B1 C1
  rw [World.size_alloc] at hmk hr0
  have R1 := Lib.hid (hr0.congr (g := rowT T l 0) fun i _ => by unfold rowT; rw [if_neg (by omega)])
  have c8 := C1.out.cell (k := 8) (u := .slice av l.length c) rfl
  clear hr hS hT hlen hr0 hW1
  go_enter Tryz.func65, Tryz.ntmps65
  go_wp2_with fail
  go_loopw [13] (fun s13 wr => ∃ j : Nat, j ≤ l.length ∧ s13 = .int .i64 (j : Int) ∧ Hid (wr.rowIs (w.heap.size + 1) 9 l.length (rowT T l j)) ∧ Hid (CellsAt wr w.heap.size 29 #[.int .i64 k, .string nx, .int .i64 vk, .bool vt, .int .i64 vi, .string vs, .slice s1 a1 b1, .slice s2 a2 b2, .slice av l.length c, .slice s4 a4 b4]) ∧ Hid (Below w.heap.size w wr)) (fun s13 _ => l.length - (RowKit.intOf s13).toNat)
  case atStart => exact ⟨0, by omega, rfl, R1, C1, B1⟩
  case round =>
    obtain ⟨j, hj, rfl, HROW, HC, HB⟩ := hrel
    clear R1 C1 B1 c8 hmk
    by_cases hlt : j < l.length
    · have i0 : (0 : Int) ≤ (j : Int) := by omega
      have i1 : (j : Int) < (l.length : Int) := by omega
      obtain ⟨b, off, D, rfl, hb, hd, hcell⟩ := HR.out j l[j] (List.getElem?_eq_getElem hlt)
      have hdE : IsE m w D l[j] := hd
      have S := HS.out D l[j] (List.getElem_mem hlt) hdE
      have hsz := HT.out l[j] (List.getElem_mem hlt)
      obtain ⟨t, ht⟩ : ∃ t, t = T l[j] := ⟨_, rfl⟩
      rw [← ht] at S hsz
      obtain ⟨k2, n2, vk2, vt2, vi2, vs2, va2, vb2, vc2, wa2, wb2, wc2, aa2, ab2, ac2, ba2, bb2, bc2, hD⟩ := isE_cells hdE
      subst hD
      have d2_0 := (HB.out.cell (p := ⟨b, _, none⟩) hb).trans (hcell 0 (.int .i64 k2) rfl)
      have d2_1 := (HB.out.cell (p := ⟨b, _, none⟩) hb).trans (hcell 1 (.string n2) rfl)
      have d2_2 := (HB.out.cell (p := ⟨b, _, none⟩) hb).trans (hcell 2 (.int .i64 vk2) rfl)
      have d2_3 := (HB.out.cell (p := ⟨b, _, none⟩) hb).trans (hcell 3 (.bool vt2) rfl)
      have d2_4 := (HB.out.cell (p := ⟨b, _, none⟩) hb).trans (hcell 4 (.int .i64 vi2) rfl)
      have d2_5 := (HB.out.cell (p := ⟨b, _, none⟩) hb).trans (hcell 5 (.string vs2) rfl)
      have d2_6 := (HB.out.cell (p := ⟨b, _, none⟩) hb).trans (hcell 6 (.slice va2 vb2 vc2) rfl)
      have d2_7 := (HB.out.cell (p := ⟨b, _, none⟩) hb).trans (hcell 7 (.slice wa2 wb2 wc2) rfl)
      have d2_8 := (HB.out.cell (p := ⟨b, _, none⟩) hb).trans (hcell 8 (.slice aa2 ab2 ac2) rfl)
      have d2_9 := (HB.out.cell (p := ⟨b, _, none⟩) hb).trans (hcell 9 (.slice ba2 bb2 bc2) rfl)
      rw [Nat.add_zero] at d2_0
      have c0 := HC.out.cell (k := 0) (u := .int .i64 k) rfl
      have r0 := HROW.out.cell (i := j) hlt
      have e0 : rowT T l j j = .string ⟨#[]⟩ := by unfold rowT; rw [if_neg (by omega)]
      rw [e0] at r0
      have fr := HROW.out.frozen j
      have hw1 : w.heap.size + 1 < wr.heap.size := HROW.out.lt
      have hw0 : w.heap.size < wr.heap.size := by omega
      have hbw : b < wr.heap.size := by omega
      have HSrc := Lib.hid S
      have sadd := fun w => run_string_add_sum (P := Tryz.prog) w ⟨#[]⟩ t (by show 0 + t.size ≤ _; omega)
      have HT1 := Lib.hid ht
      clear hcell hd hdE S ht
      have HBA := Lib.hid (show Below w.heap.size w (wr.alloc (.cells #[.int .i64 k2, .string n2, .int .i64 vk2, .bool vt2, .int .i64 vi2, .string vs2, .slice va2 vb2 vc2, .slice wa2 wb2 wc2, .slice aa2 ab2 ac2, .slice ba2 bb2 bc2] 29)).drew from (HB.out.alloc HB.out.size _).drew)
      have HRA := Lib.hid ((HROW.out.alloc (.cells #[.int .i64 k2, .string n2, .int .i64 vk2, .bool vt2, .int .i64 vi2, .string vs2, .slice va2 vb2 vc2, .slice wa2 wb2 wc2, .slice aa2 ab2 ac2, .slice ba2 bb2 bc2] 29)).drew)
      have HCA := Lib.hid (show CellsAt (wr.alloc (.cells #[.int .i64 k2, .string n2, .int .i64 vk2, .bool vt2, .int .i64 vi2, .string vs2, .slice va2 vb2 vc2, .slice wa2 wb2 wc2, .slice aa2 ab2 ac2, .slice ba2 bb2 bc2] 29)).drew w.heap.size 29 #[.int .i64 k, .string nx, .int .i64 vk, .bool vt, .int .i64 vi, .string vs, .slice s1 a1 b1, .slice s2 a2 b2, .slice (some ⟨b, off, none⟩) l.length c, .slice s4 a4 b4] from (HC.out.alloc _).of_block rfl)
      go_wp2_with fail
      go_region_with (go_at_call 35; go_fit (HSrc.out _ HBA.out); rintro e w2 ⟨rfl, hb2⟩; have hrow2 := HRA.out.of_block (hb2.block _ HRA.out.lt); have r2 := hrow2.cell (i := j) hlt; rw [e0] at r2; have fr2 := hrow2.frozen j; have HR2 := Lib.hid hrow2; have HC2 := Lib.hid (HCA.out.below hb2); have HB2 := Lib.hid (HBA.out.trans (hb2.mono HBA.out.size)); clear hb2 hrow2; go_wp2_with fail)
      all_goals
        go_wp2_with fail
        exact ⟨⟨j + 1, by omega, by go_num, Lib.hid (rowT_step HR2.out hlt HT1.out), Lib.hid (HC2.out.other (by omega) _ _), Lib.hid (HB2.out.setCell (p := ⟨w.heap.size + 1, j, none⟩) (by simp) _)⟩, by simp [RowKit.intOf]; omega⟩
    · obtain rfl : j = l.length := by omega
      have hjI : ¬ (l.length : Int) < (l.length : Int) := by omega
      have J := Tryz.strings_Join (w.heap.size + 1) 0 l.length (l.map T) ⟨#[44, 32]⟩ wr (fun i x hx => by
        rw [List.getElem?_map] at hx
        have hi : i < l.length := by
          rcases Nat.lt_or_ge i l.length with h | h
          · exact h
          · rw [List.getElem?_eq_none h] at hx; cases hx
        have h := HROW.out.cell (i := i) hi
        rw [Nat.zero_add, h]
        unfold rowT
        rw [if_pos hi, hx]
        rfl) HROW.out.lt (by rw [List.length_map]; omega) (by rw [List.length_map]; exact Nat.le_refl _) (by rw [List.map_map]; exact HLN.out)
      rw [List.length_map, List.map_map] at J
      have J := Lib.hid J
      have HOUT : Hid (((fun x : ByteArray => x.data.toList) ∘ T) = fun y => (T y).data.toList) := Lib.hid rfl
      rw [show (⟨#[44, 32]⟩ : ByteArray).data.toList = [44, 32] from rfl] at J
      go_wp2_with fail
      go_fit J.out
      rintro e w2 ⟨rfl, hb2⟩
      have HB2 := Lib.hid (HB.out.trans (hb2.mono HB.out.size))
      clear hb2
      go_wp2_with fail
      go_ret
      exact ⟨rfl, HB2.out⟩
end Go.Proofs.YtjehhldboopocaaGreatDoor.Lx
namespace Go.Proofs.YtjehhldboopocaaGreatDoor.Lx
open Go.RowKit Go.Lib
set_option linter.unusedVariables false
/-- The text of an entry. -/
def entT (T : Xp → ByteArray) (key : List UInt8) (y : Xp) : ByteArray := ((⟨(quoL key).toArray⟩ : ByteArray) ++ ⟨#[58, 32]⟩) ++ T y
def rowX (xs : List ByteArray) (j i : Nat) : Value := .string (if i < j then (xs[i]?).getD ⟨#[]⟩ else ⟨#[]⟩)
theorem rowX_step {xs : List ByteArray} {n j g : Nat} {t : ByteArray} {W : World} {v : Value} (h : W.rowIs g 9 n (fun i => if i = j then v else rowX xs j i)) (ht : xs[j]? = some t) : (W.setCell ⟨g, j, none⟩ (.string t)).rowIs g 9 n (rowX xs (j + 1)) :=
  (h.set j _).congr fun i hi => by
    by_cases e : i = j
    · subst e
      rw [if_pos rfl]
      unfold rowX
      rw [if_pos (by omega), ht]
      rfl
    · rw [if_neg e, if_neg e]
      unfold rowX
      by_cases h1 : i < j
      · rw [if_pos h1, if_pos (by omega)]
      · rw [if_neg h1, if_neg (by omega)]
set_option maxRecDepth 100000 in
set_option maxHeartbeats 4000000 in
theorem items_map (m : Nat) (T : Xp → ByteArray) (nx : ByteArray) (vk : Int) (vt : Bool) (vi : Int) (vs : ByteArray) (s1 s2 av kv : Option Addr) (a1 b1 a2 b2 c b4 : Nat) (l : List Xp) (ks : List (List UInt8)) (w : World)
    (hl : l.length ≤ 4096) (hkl : ks.length = l.length) (hr : ReadsE (m + 1) w av l) (hrk : ReadsStr w kv ks) (hkz : ∀ x, x ∈ ks → (quoL x).length ≤ 1099511627776) (hS : ∀ C y, y ∈ l → IsE m w C y → SrcC w C (T y)) (hT : ∀ y, y ∈ l → (T y).size ≤ 1099511627776)
    (hlen : (Lib.join ((List.zipWith (entT T) ks l).map (·.data.toList)) [44, 32]).length ≤ 140737488355328) :
    Calls Tryz.prog 65 #[.agg #[.int .i64 10, .string nx, .int .i64 vk, .bool vt, .int .i64 vi, .string vs, .slice s1 a1 b1, .slice s2 a2 b2, .slice av l.length c, .slice kv ks.length b4]] w fun e w' => e = .returned (.string ⟨(Lib.join ((List.zipWith (entT T) ks l).map (·.data.toList)) [44, 32]).toArray⟩) ∧ Below w.heap.size w w' := by
  obtain ⟨xs, hxs⟩ : ∃ xs, xs = List.zipWith (entT T) ks l := ⟨_, rfl⟩
  have hxl : xs.length = l.length := by rw [hxs, List.length_zipWith]; omega
  have HXS := Lib.hid hxs
  rw [← hxs] at hlen ⊢
  have HXL := Lib.hid hxl
  have HKL := Lib.hid hkl
  have hmk := Go.run_make_row' (P := Tryz.prog) 24 9 (.string ⟨#[]⟩) 16 Tryz.underlying24 (by kernel_rfl) rfl .i64 .i64 l.length (by omega) (by omega) (w.alloc (.cells #[.int .i64 10, .string nx, .int .i64 vk, .bool vt, .int .i64 vi, .string vs, .slice s1 a1 b1, .slice s2 a2 b2, .slice av l.length c, .slice kv ks.length b4] 29))
  have HR := Lib.hid hr
  have HRK := Lib.hid hrk
  have HKZ := Lib.hid hkz
  have HS := Lib.hid hS
  have HT := Lib.hid hT
  have HLN := Lib.hid hlen
  have hr0 := World.rowIs_made (w.alloc (.cells #[.int .i64 10, .string nx, .int .i64 vk, .bool vt, .int .i64 vi, .string vs, .slice s1 a1 b1, .slice s2 a2 b2, .slice av l.length c, .slice kv ks.length b4] 29)) (.string ⟨#[]⟩) l.length 9
  have B1 := Lib.hid (((Below.refl w.heap.size w).alloc (Nat.le_refl _) (.cells #[.int .i64 10, .string nx, .int .i64 vk, .bool vt, .int .i64 vi, .string vs, .slice s1 a1 b1, .slice s2 a2 b2, .slice av l.length c, .slice kv ks.length b4] 29)).alloc (by simp) (.cells (madeCells #[.string ⟨#[]⟩] l.length) 9))
  have C1 := Lib.hid ((CellsAt.new w 29 #[.int .i64 10, .string nx, .int .i64 vk, .bool vt, .int .i64 vi, .string vs, .slice s1 a1 b1, .slice s2 a2 b2, .slice av l.length c, .slice kv ks.length b4]).alloc (.cells (madeCells #[.string ⟨#[]⟩] l.length) 9))
  obtain ⟨W1, hW1⟩ : ∃ W1, W1 = (w.alloc (.cells #[.int .i64 10, .string nx, .int .i64 vk, .bool vt, .int .i64 vi, .string vs, .slice s1 a1 b1, .slice s2 a2 b2, .slice av l.length c, .slice kv ks.length b4] 29)).alloc (.cells (madeCells #[.string ⟨#[]⟩] l.length) 9) := ⟨_, rfl⟩
  rw [← hW1] at hmk hr0 B1 C1
  rw [World.size_alloc] at hmk hr0
  have R1 := Lib.hid (hr0.congr (g := rowX xs 0) fun i _ => by unfold rowX; rw [if_neg (by omega)])
  have c8 := C1.out.cell (k := 8) (u := .slice av l.length c) rfl
  clear hr hS hT hlen hr0 hW1 hxs hxl hkl hrk hkz
  go_enter Tryz.func65, Tryz.ntmps65
  go_wp2_with fail
  go_loopw [13] (fun s13 wr => ∃ j : Nat, j ≤ l.length ∧ s13 = .int .i64 (j : Int) ∧ Hid (wr.rowIs (w.heap.size + 1) 9 l.length (rowX xs j)) ∧ Hid (CellsAt wr w.heap.size 29 #[.int .i64 10, .string nx, .int .i64 vk, .bool vt, .int .i64 vi, .string vs, .slice s1 a1 b1, .slice s2 a2 b2, .slice av l.length c, .slice kv ks.length b4]) ∧ Hid (Below w.heap.size w wr)) (fun s13 _ => l.length - (RowKit.intOf s13).toNat)
  case atStart => exact ⟨0, by omega, rfl, R1, C1, B1⟩
  case round =>
    obtain ⟨j, hj, rfl, HROW, HC, HB⟩ := hrel
    clear R1 C1 B1 c8 hmk
    by_cases hlt : j < l.length
    · have hltk : j < ks.length := by have := HKL.out; omega
      have i0 : (0 : Int) ≤ (j : Int) := by omega
      have i1 : (j : Int) < (l.length : Int) := by omega
      have i2 : (j : Int) < (ks.length : Int) := by omega
      obtain ⟨b, off, D, rfl, hb, hd, hcell⟩ := HR.out j l[j] (List.getElem?_eq_getElem hlt)
      obtain ⟨bk, offk, rfl, hbk, hck⟩ := (HRK.out.below HB.out) j hltk
      have hdE : IsE m w D l[j] := hd
      have S := HS.out D l[j] (List.getElem_mem hlt) hdE
      have hsz := HT.out l[j] (List.getElem_mem hlt)
      have hqz := HKZ.out ks[j] (List.getElem_mem hltk)
      have hxj : xs[j]? = some (((⟨(quoL ks[j]).toArray⟩ : ByteArray) ++ ⟨#[58, 32]⟩) ++ T l[j]) := by
        rw [HXS.out, List.getElem?_zipWith, List.getElem?_eq_getElem hltk, List.getElem?_eq_getElem hlt]
        rfl
      have Q := Lib.hid (fun w' => Quote_any ⟨ks[j].toArray⟩ (by show (quoL ks[j]).length ≤ _; omega) w')
      rw [show (⟨ks[j].toArray⟩ : ByteArray).data.toList = ks[j] by simp] at Q
      obtain ⟨t, ht⟩ : ∃ t, t = T l[j] := ⟨_, rfl⟩
      rw [← ht] at S hsz hxj
      obtain ⟨kx, hkx⟩ : ∃ kx : ByteArray, kx = ⟨ks[j].toArray⟩ := ⟨_, rfl⟩
      rw [← hkx] at hck Q
      obtain ⟨qx, hqx⟩ : ∃ qx : ByteArray, qx = ⟨(quoL ks[j]).toArray⟩ := ⟨_, rfl⟩
      have hqs : qx.size ≤ 1099511627776 := by rw [hqx]; show (quoL ks[j]).toArray.size ≤ _; simp; exact hqz
      rw [← hqx] at Q hxj
      obtain ⟨k2, n2, vk2, vt2, vi2, vs2, va2, vb2, vc2, wa2, wb2, wc2, aa2, ab2, ac2, ba2, bb2, bc2, hD⟩ := isE_cells hdE
      subst hD
      have d2_0 := (HB.out.cell (p := ⟨b, _, none⟩) hb).trans (hcell 0 (.int .i64 k2) rfl)
      have d2_1 := (HB.out.cell (p := ⟨b, _, none⟩) hb).trans (hcell 1 (.string n2) rfl)
      have d2_2 := (HB.out.cell (p := ⟨b, _, none⟩) hb).trans (hcell 2 (.int .i64 vk2) rfl)
      have d2_3 := (HB.out.cell (p := ⟨b, _, none⟩) hb).trans (hcell 3 (.bool vt2) rfl)
      have d2_4 := (HB.out.cell (p := ⟨b, _, none⟩) hb).trans (hcell 4 (.int .i64 vi2) rfl)
      have d2_5 := (HB.out.cell (p := ⟨b, _, none⟩) hb).trans (hcell 5 (.string vs2) rfl)
      have d2_6 := (HB.out.cell (p := ⟨b, _, none⟩) hb).trans (hcell 6 (.slice va2 vb2 vc2) rfl)
      have d2_7 := (HB.out.cell (p := ⟨b, _, none⟩) hb).trans (hcell 7 (.slice wa2 wb2 wc2) rfl)
      have d2_8 := (HB.out.cell (p := ⟨b, _, none⟩) hb).trans (hcell 8 (.slice aa2 ab2 ac2) rfl)
      have d2_9 := (HB.out.cell (p := ⟨b, _, none⟩) hb).trans (hcell 9 (.slice ba2 bb2 bc2) rfl)
      rw [Nat.add_zero] at d2_0
      have hw1 : w.heap.size + 1 < wr.heap.size := HROW.out.lt
      have hw0 : w.heap.size < wr.heap.size := by omega
      have hbw : b < wr.heap.size := by omega
      have HCA := Lib.hid (show CellsAt (wr.alloc (.cells #[.int .i64 k2, .string n2, .int .i64 vk2, .bool vt2, .int .i64 vi2, .string vs2, .slice va2 vb2 vc2, .slice wa2 wb2 wc2, .slice aa2 ab2 ac2, .slice ba2 bb2 bc2] 29)) w.heap.size 29 #[.int .i64 10, .string nx, .int .i64 vk, .bool vt, .int .i64 vi, .string vs, .slice s1 a1 b1, .slice s2 a2 b2, .slice (some ⟨b, off, none⟩) l.length c, .slice (some ⟨bk, offk, none⟩) ks.length b4] from HC.out.alloc _)
      have HRA := Lib.hid (HROW.out.alloc (.cells #[.int .i64 k2, .string n2, .int .i64 vk2, .bool vt2, .int .i64 vi2, .string vs2, .slice va2 vb2 vc2, .slice wa2 wb2 wc2, .slice aa2 ab2 ac2, .slice ba2 bb2 bc2] 29))
      have HEA := Lib.hid (CellsAt.new wr 29 #[.int .i64 k2, .string n2, .int .i64 vk2, .bool vt2, .int .i64 vi2, .string vs2, .slice va2 vb2 vc2, .slice wa2 wb2 wc2, .slice aa2 ab2 ac2, .slice ba2 bb2 bc2])
      have HBA := Lib.hid (show Below w.heap.size w (wr.alloc (.cells #[.int .i64 k2, .string n2, .int .i64 vk2, .bool vt2, .int .i64 vi2, .string vs2, .slice va2 vb2 vc2, .slice wa2 wb2 wc2, .slice aa2 ab2 ac2, .slice ba2 bb2 bc2] 29)) from HB.out.alloc HB.out.size _)
      have c0 := HC.out.cell (k := 0) (u := .int .i64 10) rfl
      have c9 := HC.out.cell (k := 9) (u := .slice (some ⟨bk, offk, none⟩) ks.length b4) rfl
      have HSrc := Lib.hid S
      have sadd1 := fun w => run_string_add_sum (P := Tryz.prog) w qx ⟨#[58, 32]⟩ (by show qx.size + 2 ≤ _; omega)
      have sadd2 := fun w => run_string_add_sum (P := Tryz.prog) w (qx ++ ⟨#[58, 32]⟩) t (by rw [ByteArray.size_append]; show qx.size + 2 + t.size ≤ _; omega)
      have HXJ := Lib.hid hxj
      clear hcell hd hdE S ht hkx hqx hxj hqz
      go_wp2_with fail
      go_fit (Q.out _)
      rintro e w1 ⟨rfl, hb1⟩
      have hrow1 := HRA.out.of_block (hb1.block _ HRA.out.lt)
      have r1 := hrow1.cell (i := j) hlt
      have fr1 := hrow1.frozen j
      have hE1 := HEA.out.below hb1
      have HRW1 := Lib.hid hrow1
      have HC1 := Lib.hid (HCA.out.below hb1)
      have HE1 := Lib.hid hE1
      have HB1 := Lib.hid (HBA.out.trans (hb1.mono HBA.out.size))
      have hlt1 := hrow1.lt
      clear hb1 hrow1 hE1
      go_wp2_with fail
      have hE2 := HE1.out.other (c := w.heap.size + 1) (by omega) j (.string (qx ++ ⟨#[58, 32]⟩))
      have hC2 := HC1.out.other (c := w.heap.size + 1) (by omega) j (.string (qx ++ ⟨#[58, 32]⟩))
      have hR2 := HRW1.out.set j (.string (qx ++ ⟨#[58, 32]⟩))
      have hB2 := HB1.out.setCell (p := ⟨w.heap.size + 1, j, none⟩) (by simp) (.string (qx ++ ⟨#[58, 32]⟩))
      obtain ⟨W2, hW2⟩ : ∃ W2, W2 = w1.setCell ⟨w.heap.size + 1, j, none⟩ (.string (qx ++ ⟨#[58, 32]⟩)) := ⟨_, rfl⟩
      rw [← hW2] at hE2 hC2 hR2 hB2 ⊢
      have r2 := hR2.cell (i := j) hlt
      rw [if_pos rfl] at r2
      have fr2 := hR2.frozen j
      have e0 := hE2.cell (k := 0) (u := .int .i64 k2) rfl
      have e1 := hE2.cell (k := 1) (u := .string n2) rfl
      have e2 := hE2.cell (k := 2) (u := .int .i64 vk2) rfl
      have e3 := hE2.cell (k := 3) (u := .bool vt2) rfl
      have e4 := hE2.cell (k := 4) (u := .int .i64 vi2) rfl
      have e5 := hE2.cell (k := 5) (u := .string vs2) rfl
      have e6 := hE2.cell (k := 6) (u := .slice va2 vb2 vc2) rfl
      have e7 := hE2.cell (k := 7) (u := .slice wa2 wb2 wc2) rfl
      have e8 := hE2.cell (k := 8) (u := .slice aa2 ab2 ac2) rfl
      have e9 := hE2.cell (k := 9) (u := .slice ba2 bb2 bc2) rfl
      have HBD := Lib.hid (show Below w.heap.size w W2.drew from hB2.drew)
      have HRD := Lib.hid hR2.drew
      have HCD := Lib.hid (show CellsAt W2.drew w.heap.size 29 #[.int .i64 10, .string nx, .int .i64 vk, .bool vt, .int .i64 vi, .string vs, .slice s1 a1 b1, .slice s2 a2 b2, .slice (some ⟨b, off, none⟩) l.length c, .slice (some ⟨bk, offk, none⟩) ks.length b4] from hC2.of_block rfl)
      clear hE2 hC2 hR2 hB2 hW2 r1 fr1 c0 c9
      go_region_with (go_at_call 35; go_fit (HSrc.out _ HBD.out); rintro e w3 ⟨rfl, hb3⟩; have hrow3 := HRD.out.of_block (hb3.block _ HRD.out.lt); have r3 := hrow3.cell (i := j) hlt; rw [if_pos rfl] at r3; have fr3 := hrow3.frozen j; have HR3 := Lib.hid hrow3; have HC3 := Lib.hid (HCD.out.below hb3); have HB3 := Lib.hid (HBD.out.trans (hb3.mono HBD.out.size)); clear hb3 hrow3; go_wp2_with fail)
      all_goals
        go_wp2_with fail
        exact ⟨⟨j + 1, by omega, by go_num, Lib.hid (rowX_step HR3.out HXJ.out), Lib.hid (HC3.out.other (by omega) _ _), Lib.hid (HB3.out.setCell (p := ⟨w.heap.size + 1, j, none⟩) (by simp) _)⟩, by simp [RowKit.intOf]; omega⟩
    · obtain rfl : j = l.length := by omega
      have hjI : ¬ (l.length : Int) < (l.length : Int) := by omega
      have J := Tryz.strings_Join (w.heap.size + 1) 0 l.length xs ⟨#[44, 32]⟩ wr (fun i x hx => by
        have hi : i < l.length := by
          rcases Nat.lt_or_ge i xs.length with h | h
          · have := HXL.out; omega
          · rw [List.getElem?_eq_none h] at hx; cases hx
        have h := HROW.out.cell (i := i) hi
        rw [Nat.zero_add, h]
        unfold rowX
        rw [if_pos hi, hx]
        rfl) HROW.out.lt (by have := HXL.out; omega) (by have := HXL.out; omega) HLN.out
      rw [HXL.out] at J
      have J := Lib.hid J
      rw [show (⟨#[44, 32]⟩ : ByteArray).data.toList = [44, 32] from rfl] at J
      go_wp2_with fail
      go_fit J.out
      rintro e w2 ⟨rfl, hb2⟩
      have HB2 := Lib.hid (HB.out.trans (hb2.mono HB.out.size))
      clear hb2
      go_wp2_with fail
      go_ret
      exact ⟨rfl, HB2.out⟩
end Go.Proofs.YtjehhldboopocaaGreatDoor.Lx
