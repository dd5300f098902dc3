/- The contract of the document's matches (glob). -/
import Derived.Test.YtaalfnfikjmomaaGlbG
import Derived.Test.YtaalfnfikjmomaaGlbN
import Derived.Deep.OwnRows
namespace Go.Proofs.Ytaalfnfikjmomaa
open Go.RowKit Go.Lib

/-- Whether a list of elements matches a string. -/
noncomputable def gmB (l : List GE) (s : List UInt8) : Bool := @decide (GM l s) (Classical.propDecidable _)
theorem gmB_true {l : List GE} {s : List UInt8} : gmB l s = true ↔ GM l s := by unfold gmB; exact @decide_eq_true_iff _ (Classical.propDecidable _)
theorem gmB_eq {l : List GE} {s : List UInt8} {b : Bool} (h : GM l s ↔ b = true) : gmB l s = b := by
  cases b
  · cases hg : gmB l s
    · rfl
    · exact absurd (h.1 (gmB_true.1 hg)) (by decide)
  · exact gmB_true.2 (h.2 rfl)
theorem rowIs_below {w w' : World} {b n : Nat} {t : TypeId} {f : Nat → Value} (h : w.rowIs b t n f) (hb : Below w.heap.size w w') : w'.rowIs b t n f := h.of_block (hb.block b h.lt)

theorem hold3c {W w1 w2 : World} {p1 p2 p3 : Addr} {x y z : Value} (h : w1.cell? p1 = some x ∧ w1.cell? p2 = some y ∧ w1.cell? p3 = some z ∧ W.heap.size ≤ w1.heap.size ∧ Below W.heap.size W w1) (hb : Below w1.heap.size w1 w2) :
    w2.cell? p1 = some x ∧ w2.cell? p2 = some y ∧ w2.cell? p3 = some z ∧ W.heap.size ≤ w2.heap.size ∧ Below W.heap.size W w2 :=
  ⟨(hb.cell (World.block_lt_of_cell? _ _ h.1)).trans h.1, (hb.cell (World.block_lt_of_cell? _ _ h.2.1)).trans h.2.1, (hb.cell (World.block_lt_of_cell? _ _ h.2.2.1)).trans h.2.2.1, Nat.le_trans h.2.2.2.1 hb.size, h.2.2.2.2.trans (hb.mono h.2.2.2.1)⟩
theorem hold3c_drew {W w1 : World} {p1 p2 p3 : Addr} {x y z : Value} (h : w1.cell? p1 = some x ∧ w1.cell? p2 = some y ∧ w1.cell? p3 = some z ∧ W.heap.size ≤ w1.heap.size ∧ Below W.heap.size W w1) :
    w1.drew.cell? p1 = some x ∧ w1.drew.cell? p2 = some y ∧ w1.drew.cell? p3 = some z ∧ W.heap.size ≤ w1.drew.heap.size ∧ Below W.heap.size W w1.drew := ⟨h.1, h.2.1, h.2.2.1, h.2.2.2.1, h.2.2.2.2.drew⟩
set_option maxHeartbeats 8000000 in
set_option maxRecDepth 100000 in
theorem refMatches_any (la : Option Addr) (lc : Nat) (L : List GE) (s : ByteArray) (hs : s.size ≤ 1099511627776) (hL : L.length ≤ 4096) (w : World) (hr : ReadsE w la L) (hit : ∀ x ∈ L, x.items.length ≤ 4096) :
    Calls Try.prog 26 #[.slice la L.length lc, .string s] w fun e w' => e = .returned (.bool (gmB L s.data.toList)) ∧ Below w.heap.size w w' := by
  have h0 : (s.size : Int) ≤ 1099511627776 := by omega
  have l0 : (L.length : Int) ≤ 4096 := by omega
  have HMK := Lib.hid (fun w => Go.run_make_row' (P := Try.prog) 77 4 (.bool false) 1 Try.underlying77 (by kernel_rfl) rfl .i64 .i64 (L.length + 1) (by omega) (by omega) w)
  have hmk := HMK.out w
  rw [show ((L.length + 1 : Nat) : Int) = (L.length : Int) + 1 by omega] at hmk
  have hr0 := World.rowIs_made w (.bool false) (L.length + 1) 4
  have B0 := (Below.refl w.heap.size w).alloc (Nat.le_refl _) (.cells (madeCells #[.bool false] (L.length + 1)) 4)
  obtain ⟨W1, hW1⟩ : ∃ W1, W1 = w.alloc (.cells (madeCells #[.bool false] (L.length + 1)) 4) := ⟨_, rfl⟩
  rw [← hW1] at hmk hr0 B0
  have c0 := hr0.cell (i := 0) (by omega)
  have f0 := hr0.frozen 0
  have HR1 := Lib.hid (show (W1.setCell ⟨w.heap.size, 0, none⟩ (.bool true)).rowIs w.heap.size 4 (L.length + 1) (fun j => .bool (decide (j = 0))) from (hr0.set 0 (.bool true)).congr (fun i _ => by
    by_cases e : i = 0
    · subst e; rfl
    · simp [e]))
  have B1 := Lib.hid (B0.setCell (p := ⟨w.heap.size, 0, none⟩) (Nat.le_refl _) (.bool true))
  have HR := Lib.hid hr
  have HIT := Lib.hid hit
  clear hW1 hr0 B0 hr hit
  go_enter Try.func26, Try.ntmps26
  go_wp2_with fail
  go_loopw [5, 6] (fun s5 s6 wr => ∃ (g k : Nat) (p : Nat → Bool), s5 = .slice (some ⟨g, 0, none⟩) (L.length + 1) (L.length + 1) ∧ s6 = .int .i64 (k : Int) ∧ k ≤ s.size ∧ w.heap.size ≤ g ∧ wr.rowIs g 4 (L.length + 1) (fun j => .bool (p j)) ∧ OnInv L s.data.toList k p ∧ Below w.heap.size w wr) (fun _ s6 _ => s.size + 1 - (RowKit.intOf s6).toNat)
  case atStart => exact ⟨w.heap.size, 0, _, rfl, rfl, by omega, Nat.le_refl _, HR1.out, on_start _ _, B1.out⟩
  case round =>
    obtain ⟨g, k, p, rfl, rfl, hk, hg, hrow, hinv, hb⟩ := hrel
    have k0 : (0 : Int) ≤ k ∧ (k : Int) ≤ (s.size : Int) := by omega
    have HROW := Lib.hid hrow
    have HINV := Lib.hid hinv
    have HB := Lib.hid hb
    clear hrow hinv hb hmk c0 f0
    go_wp2_with fail
    go_loopw [7] (fun s7 wx => ∃ (i : Nat) (p : Nat → Bool), s7 = .int .i64 (i : Int) ∧ i ≤ L.length ∧ wx.rowIs g 4 (L.length + 1) (fun j => .bool (p j)) ∧ OnInv L s.data.toList k p ∧ Closed L p i ∧ Below w.heap.size w wx) (fun s7 _ => L.length - (RowKit.intOf s7).toNat)
    case atStart => exact ⟨0, p, rfl, by omega, HROW.out, HINV.out, fun j _ h => by omega, HB.out⟩
    case round =>
      obtain ⟨i, p, rfl, hi, hrow, hinv, hcl, hb⟩ := hrel
      have ROW := Lib.hid hrow
      have INV := Lib.hid hinv
      have CL := Lib.hid hcl
      have B := Lib.hid hb
      by_cases hlt : i < L.length
      · have i0 : (0 : Int) ≤ i ∧ (i : Int) < (L.length : Int) := by omega
        obtain ⟨b, iv, ic, rfl, hb9, d1, d2, d3, d4⟩ := (HR.out.below hb) i hlt
        rw [Nat.mul_comm] at d1 d2
        obtain ⟨x, hx⟩ : ∃ x, x = L[i] := ⟨_, rfl⟩
        rw [← hx] at d1 d2 d3 d4
        have HX := Lib.hid (show ∃ h : i < L.length, L[i] = x from ⟨hlt, hx.symm⟩)
        have M := Lib.hid (fun w => refMany_any x d3 (.slice iv x.items.length ic) w ⟨_, _, _, rfl⟩)
        have r0 := hrow.cell (i := i) (by omega)
        have HL := Lib.hid hlt
        have HG := Lib.hid hg
        clear hx hrow hinv hcl hb d4 hlt hg hk
        cases hp : p i
        · rw [hp] at r0
          have HF := Lib.hid (show ∀ (hi : i < L.length), ¬ (p i = true ∧ manyB L[i] = true) from fun _ h => by rw [hp] at h; exact absurd h.1 (by decide))
          clear hp
          go_wp2_with fail
          go_roundw
          case rel => exact ⟨i + 1, p, by go_num, HL.out, ROW.out, INV.out, closed_next CL.out HF.out, B.out⟩
          case measure => have := HL.out; simp [RowKit.intOf]; omega
        · rw [hp] at r0
          have HP := Lib.hid hp
          clear hp
          cases hm : manyB x
          · have HF := Lib.hid (show ∀ (hi : i < L.length), ¬ (p i = true ∧ manyB L[i] = true) from fun _ h => by obtain ⟨_, e⟩ := HX.out; rw [e, hm] at h; exact absurd h.2 (by decide))
            rw [hm] at M
            clear hm
            go_wp2_with fail
            go_fit (M.out _)
            rintro e w2 ⟨rfl, hb2⟩
            have B2 := Lib.hid (And.intro (B.out.trans (hb2.mono B.out.size)) (rowIs_below ROW.out hb2))
            clear hb2
            go_wp2_with fail
            go_roundw
            case rel => exact ⟨i + 1, p, by go_num, HL.out, B2.out.2, INV.out, closed_next CL.out HF.out, B2.out.1⟩
            case measure => have := HL.out; simp [RowKit.intOf]; omega
          · rw [hm] at M
            have HM := Lib.hid (show ∃ h : i < L.length, manyB L[i] = true from by obtain ⟨h, e⟩ := HX.out; exact ⟨h, by rw [e]; exact hm⟩)
            clear hm
            go_wp2_with fail
            go_fit (M.out _)
            rintro e w2 ⟨rfl, hb2⟩
            have B2 := Lib.hid (And.intro (B.out.trans (hb2.mono B.out.size)) (rowIs_below ROW.out hb2))
            have q1 := B2.out.2.cell (i := i + 1) (by have := HL.out; omega)
            have q2 := B2.out.2.frozen (i + 1)
            have i1 : (i : Int) + 1 < (L.length : Int) + 1 := by omega
            clear hb2 r0 d1 d2
            go_wp2_with fail
            go_roundw
            case rel =>
              exact ⟨i + 1, fun j => if j = i + 1 then true else p j, by go_num, HL.out, (B2.out.2.set (i + 1) (.bool true)).congr (fun j _ => by by_cases e : j = i + 1 <;> simp [e]),
                on_close INV.out HL.out HP.out HM.out.2, closed_set CL.out, B2.out.1.setCell (p := ⟨g, i + 1, none⟩) HG.out _⟩
            case measure => have := HL.out; simp [RowKit.intOf]; omega
      · obtain rfl : i = L.length := by omega
        have HG := Lib.hid hg
        have HK := Lib.hid hk
        have r1 := hrow.cell (i := L.length) (by omega)
        clear hrow hinv hcl hb hlt hi
        by_cases hks : k = s.size
        · have ke : ((k : Int) == (s.size : Int)) = true := by rw [beq_iff_eq]; omega
          have HV := Lib.hid (show gmB L s.data.toList = p L.length from gmB_eq (on_final (by have := INV.out; rw [hks, ← lenB] at this; exact this) CL.out))
          have ln : (L.length : Int) < (L.length : Int) + 1 := by omega
          generalize p L.length = q at r1 HV
          clear hks hk hg
          go_wp2_with fail
          go_ret
          exact ⟨by rw [HV.out]; rfl, B.out⟩
        · have ke : ((k : Int) == (s.size : Int)) = false := by rw [beq_eq_false_iff_ne]; omega
          have hks2 : k < s.size := by omega
          have hmk := HMK.out wr
          rw [show ((L.length + 1 : Nat) : Int) = (L.length : Int) + 1 by omega] at hmk
          have hr0 := World.rowIs_made wr (.bool false) (L.length + 1) 4
          have B0 := (Below.refl wr.heap.size wr).alloc (Nat.le_refl _) (.cells (madeCells #[.bool false] (L.length + 1)) 4)
          obtain ⟨W2, hW2⟩ : ∃ W2, W2 = wr.alloc (.cells (madeCells #[.bool false] (L.length + 1)) 4) := ⟨_, rfl⟩
          rw [← hW2] at hmk hr0 B0
          obtain ⟨g2, hg2⟩ : ∃ g2, g2 = wr.heap.size := ⟨_, rfl⟩
          have hne : g < g2 := by rw [hg2]; exact ROW.out.lt
          rw [← hg2] at hmk hr0
          have HW2 := Lib.hid (And.intro hne (And.intro hr0 (And.intro (rowIs_below ROW.out B0) (And.intro (B.out.trans (B0.mono B.out.size)) (show w.heap.size ≤ g2 by rw [hg2]; exact B.out.size)))))
          have hix := index_at s k hks2
          obtain ⟨c, hc⟩ : ∃ c, c = s[k] := ⟨_, rfl⟩
          rw [← hc] at hix
          have HC := Lib.hid (show ∃ h : k < s.data.toList.length, s.data.toList[k] = c from ⟨by rw [lenB]; exact hks2, by rw [hc]; rfl⟩)
          have k2 : (k : Int) < (s.size : Int) := by omega
          clear hW2 hg2 hne hr0 B0 hc hks hks2 hg hk r1
          go_wp2_with fail
          go_loopw [9] (fun s9 wx => ∃ (i : Nat) (q : Nat → Bool), s9 = .int .i64 (i : Int) ∧ i ≤ L.length ∧ wx.rowIs g 4 (L.length + 1) (fun j => .bool (p j)) ∧ wx.rowIs g2 4 (L.length + 1) (fun j => .bool (q j)) ∧ NextIs L p c i q ∧ Below w.heap.size w wx) (fun s9 _ => L.length - (RowKit.intOf s9).toNat)
          case atStart => exact ⟨0, fun _ => false, rfl, by omega, HW2.out.2.2.1, HW2.out.2.1, next_start _ _ _, HW2.out.2.2.2.1⟩
          case round =>
            obtain ⟨i, q, rfl, hi, hrow, hrow2, hnx, hb⟩ := hrel
            have ROW1 := Lib.hid hrow
            have ROW2 := Lib.hid hrow2
            have NX := Lib.hid hnx
            have B3 := Lib.hid hb
            clear hmk
            by_cases hlt : i < L.length
            · have i0 : (0 : Int) ≤ i ∧ (i : Int) < (L.length : Int) := by omega
              have i9 : (i : Int) < (L.length : Int) + 1 := by omega
              have hre := HR.out.below hb
              obtain ⟨b, iv, ic, rfl, hb9, d1, d2, d3, d4⟩ := hre i hlt
              rw [Nat.mul_comm] at d1 d2
              obtain ⟨x, hx⟩ : ∃ x, x = L[i] := ⟨_, rfl⟩
              rw [← hx] at d1 d2 d3 d4
              have HX := Lib.hid (show ∃ h : i < L.length, L[i] = x from ⟨hlt, hx.symm⟩)
              have hxl : x.items.length ≤ 4096 := HIT.out x (by rw [hx]; exact List.getElem_mem hlt)
              have F := Lib.hid (fun w hr => refFits_any x c d3 iv ic hxl (fun _ => True) w hr)
              have M := Lib.hid (fun w => refMany_any x d3 (.slice iv x.items.length ic) w ⟨_, _, _, rfl⟩)
              have D4 := Lib.hid d4
              have r0 := hrow.cell (i := i) (by omega)
              have HL := Lib.hid hlt
              have hs0 := fun (h : p i = true) => show wr.cell? ⟨g, i, none⟩ = some (.bool true) ∧ wr.cell? ⟨b, i * 2, none⟩ = some (.int .i64 (x.kind : Nat)) ∧ wr.cell? ⟨b, i * 2 + 1, none⟩ = some (.slice iv x.items.length ic) ∧ wr.heap.size ≤ wr.heap.size ∧ Below wr.heap.size wr wr from ⟨by rw [r0, h], d1, d2, Nat.le_refl _, Below.refl _ _⟩
              clear hx hrow hrow2 hnx hb d4 hlt hre hxl
              cases hp : p i
              · rw [hp] at r0
                have HF := Lib.hid (show ∀ (hi : i < L.length), ¬ (p i = true ∧ fitsB L[i] c = true) from fun _ h => by rw [hp] at h; exact absurd h.1 (by decide))
                clear hp
                go_wp2_with fail
                go_quiet (fail)
                go_wp2_with fail
                go_roundw
                case rel => exact ⟨i + 1, q, by go_num, HL.out, rowIs_below ROW1.out (below_drewN (Below.refl _ _) _), rowIs_below ROW2.out (below_drewN (Below.refl _ _) _), next_skip NX.out HF.out, below_drewN B3.out _⟩
                case measure => have := HL.out; simp [RowKit.intOf]; omega
              · rw [hp] at r0
                have HP := Lib.hid hp
                have hs0 := hs0 hp
                clear hp
                cases hf : fitsB x c
                · have HF := Lib.hid (show ∀ (hi : i < L.length), ¬ (p i = true ∧ fitsB L[i] c = true) from fun _ h => by obtain ⟨_, e⟩ := HX.out; rw [e, hf] at h; exact absurd h.2 (by decide))
                  rw [hf] at F
                  clear hf
                  go_wp2_with fail
                  go_cut [75] (fun s75 wx => s75 = .bool false ∧ wx.cell? ⟨g, i, none⟩ = some (.bool true) ∧ wx.cell? ⟨b, i * 2, none⟩ = some (.int .i64 (x.kind : Nat)) ∧ wx.cell? ⟨b, i * 2 + 1, none⟩ = some (.slice iv x.items.length ic) ∧ wr.heap.size ≤ wx.heap.size ∧ Below wr.heap.size wr wx)
                  case first =>
                    go_region_held3 (fun w' => w'.cell? ⟨g, i, none⟩ = some (.bool true) ∧ w'.cell? ⟨b, i * 2, none⟩ = some (.int .i64 (x.kind : Nat)) ∧ w'.cell? ⟨b, i * 2 + 1, none⟩ = some (.slice iv x.items.length ic) ∧ wr.heap.size ≤ w'.heap.size ∧ Below wr.heap.size wr w') (first | assumption | exact hold3c_drew hs0 | exact hold3c (hold3c_drew hs0) (by assumption)) (first
                      | (go_at_call 40; go_fit (F.out _ (D4.out.below (Below.refl _ _).drew)); rintro e w2 ⟨rfl, hb2⟩)
                      | fail)
                    go_wp2_with fail
                    go_meet
                    refine ⟨rfl, ?_⟩
                    assumption
                  case rest =>
                    obtain ⟨rfl, e0, e1, e2, _, hb2⟩ := hcut
                    clear hs0
                    have B4 := Lib.hid (And.intro (B3.out.trans (hb2.mono B3.out.size)) (And.intro (rowIs_below ROW1.out hb2) (rowIs_below ROW2.out hb2)))
                    clear hb2
                    go_wp2_with fail
                    go_roundw
                    case rel => exact ⟨i + 1, q, by go_num, HL.out, B4.out.2.1, B4.out.2.2, next_skip NX.out HF.out, B4.out.1⟩
                    case measure => have := HL.out; simp [RowKit.intOf]; omega
                · have HF := Lib.hid (show ∃ h : i < L.length, fitsB L[i] c = true from by obtain ⟨h, e⟩ := HX.out; exact ⟨h, by rw [e]; exact hf⟩)
                  rw [hf] at F
                  clear hf
                  cases hm : manyB x
                  · have HM := Lib.hid (show ∃ h : i < L.length, manyB L[i] = false from by obtain ⟨h, e⟩ := HX.out; exact ⟨h, by rw [e]; exact hm⟩)
                    rw [hm] at M
                    clear hm
                    go_wp2_with fail
                    go_cut [75] (fun s75 wx => s75 = .bool true ∧ wx.cell? ⟨g, i, none⟩ = some (.bool true) ∧ wx.cell? ⟨b, i * 2, none⟩ = some (.int .i64 (x.kind : Nat)) ∧ wx.cell? ⟨b, i * 2 + 1, none⟩ = some (.slice iv x.items.length ic) ∧ wr.heap.size ≤ wx.heap.size ∧ Below wr.heap.size wr wx)
                    case first =>
                      go_region_held3 (fun w' => w'.cell? ⟨g, i, none⟩ = some (.bool true) ∧ w'.cell? ⟨b, i * 2, none⟩ = some (.int .i64 (x.kind : Nat)) ∧ w'.cell? ⟨b, i * 2 + 1, none⟩ = some (.slice iv x.items.length ic) ∧ wr.heap.size ≤ w'.heap.size ∧ Below wr.heap.size wr w') (first | assumption | exact hold3c_drew hs0 | exact hold3c (hold3c_drew hs0) (by assumption)) (first
                        | (go_at_call 40; go_fit (F.out _ (D4.out.below (Below.refl _ _).drew)); rintro e w2 ⟨rfl, hb2⟩)
                        | fail)
                      go_wp2_with fail
                      go_meet
                      refine ⟨rfl, ?_⟩
                      assumption
                    case rest =>
                      obtain ⟨rfl, e0, e1, e2, _, hb2⟩ := hcut
                      clear hs0
                      have B4 := Lib.hid (And.intro (B3.out.trans (hb2.mono B3.out.size)) (And.intro (rowIs_below ROW1.out hb2) (rowIs_below ROW2.out hb2)))
                      clear hb2 r0 d1 d2
                      go_wp2_with fail
                      go_fit (M.out _)
                      rintro e w3 ⟨rfl, hb3⟩
                      have B5 := Lib.hid (And.intro (B4.out.1.trans (hb3.mono B4.out.1.size)) (And.intro (rowIs_below B4.out.2.1 hb3) (rowIs_below B4.out.2.2 hb3)))
                      have q1 := B5.out.2.2.cell (i := i + 1) (by have := HL.out; omega)
                      have q2 := B5.out.2.2.frozen (i + 1)
                      have i1 : (i : Int) + 1 < (L.length : Int) + 1 := by omega
                      clear hb3 e1 e2
                      go_wp2_with fail
                      go_roundw
                      case rel =>
                        refine ⟨i + 1, _, by go_num, HL.out, B5.out.2.1.setOther (a := ⟨g2, i + 1, none⟩) (by have := HW2.out.1; show g ≠ g2; omega) _, (B5.out.2.2.set (i + 1) (.bool true)).congr (g := fun j => .bool (if j = (if manyB (L[i]'HL.out) = true then i else i + 1) then true else q j)) (fun j _ => ?_), next_set NX.out HL.out HP.out HF.out.2, B5.out.1.setCell (p := ⟨g2, i + 1, none⟩) HW2.out.2.2.2.2 _⟩
                        rw [if_neg (show ¬ manyB (L[i]'HL.out) = true by rw [HM.out.2]; decide)]
                        by_cases e : j = i + 1 <;> simp [e]
                      case measure => have := HL.out; simp [RowKit.intOf]; omega
                  · have HM := Lib.hid (show ∃ h : i < L.length, manyB L[i] = true from by obtain ⟨h, e⟩ := HX.out; exact ⟨h, by rw [e]; exact hm⟩)
                    rw [hm] at M
                    clear hm
                    go_wp2_with fail
                    go_cut [75] (fun s75 wx => s75 = .bool true ∧ wx.cell? ⟨g, i, none⟩ = some (.bool true) ∧ wx.cell? ⟨b, i * 2, none⟩ = some (.int .i64 (x.kind : Nat)) ∧ wx.cell? ⟨b, i * 2 + 1, none⟩ = some (.slice iv x.items.length ic) ∧ wr.heap.size ≤ wx.heap.size ∧ Below wr.heap.size wr wx)
                    case first =>
                      go_region_held3 (fun w' => w'.cell? ⟨g, i, none⟩ = some (.bool true) ∧ w'.cell? ⟨b, i * 2, none⟩ = some (.int .i64 (x.kind : Nat)) ∧ w'.cell? ⟨b, i * 2 + 1, none⟩ = some (.slice iv x.items.length ic) ∧ wr.heap.size ≤ w'.heap.size ∧ Below wr.heap.size wr w') (first | assumption | exact hold3c_drew hs0 | exact hold3c (hold3c_drew hs0) (by assumption)) (first
                        | (go_at_call 40; go_fit (F.out _ (D4.out.below (Below.refl _ _).drew)); rintro e w2 ⟨rfl, hb2⟩)
                        | fail)
                      go_wp2_with fail
                      go_meet
                      refine ⟨rfl, ?_⟩
                      assumption
                    case rest =>
                      obtain ⟨rfl, e0, e1, e2, _, hb2⟩ := hcut
                      clear hs0
                      have B4 := Lib.hid (And.intro (B3.out.trans (hb2.mono B3.out.size)) (And.intro (rowIs_below ROW1.out hb2) (rowIs_below ROW2.out hb2)))
                      clear hb2 r0 d1 d2
                      go_wp2_with fail
                      go_fit (M.out _)
                      rintro e w3 ⟨rfl, hb3⟩
                      have B5 := Lib.hid (And.intro (B4.out.1.trans (hb3.mono B4.out.1.size)) (And.intro (rowIs_below B4.out.2.1 hb3) (rowIs_below B4.out.2.2 hb3)))
                      have q1 := B5.out.2.2.cell (i := i) (by have := HL.out; omega)
                      have q2 := B5.out.2.2.frozen i
                      have i1 : (i : Int) < (L.length : Int) + 1 := by omega
                      clear hb3 e1 e2
                      go_wp2_with fail
                      go_roundw
                      case rel =>
                        refine ⟨i + 1, _, by go_num, HL.out, B5.out.2.1.setOther (a := ⟨g2, i, none⟩) (by have := HW2.out.1; show g ≠ g2; omega) _, (B5.out.2.2.set i (.bool true)).congr (g := fun j => .bool (if j = (if manyB (L[i]'HL.out) = true then i else i + 1) then true else q j)) (fun j _ => ?_), next_set NX.out HL.out HP.out HF.out.2, B5.out.1.setCell (p := ⟨g2, i, none⟩) HW2.out.2.2.2.2 _⟩
                        rw [if_pos (show manyB (L[i]'HL.out) = true from HM.out.2)]
                        by_cases e : j = i <;> simp [e]
                      case measure => have := HL.out; simp [RowKit.intOf]; omega
            · obtain rfl : i = L.length := by omega
              have HK1 := Lib.hid (show k + 1 ≤ s.size by omega)
              clear hrow hrow2 hnx hb hlt hi
              go_wp2_with fail
              go_roundw
              case rel =>
                obtain ⟨h, e⟩ := HC.out
                exact ⟨g2, k + 1, q, rfl, by go_num, HK1.out, HW2.out.2.2.2.2, ROW2.out, on_step h INV.out CL.out (by rw [e]; exact NX.out), B3.out⟩
              case measure => have := HK1.out; simp [RowKit.intOf]; omega
end Go.Proofs.Ytaalfnfikjmomaa
