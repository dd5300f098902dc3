/- Contract of the document's Literal (glob). -/
import Derived.Test.YtaalfnfikjmomaaGlbNh
namespace Go.Proofs.Ytaalfnfikjmomaa
open Go.RowKit Go.Lib
theorem headD_at : ∀ (l : List (UInt8 × UInt8)) (h : 0 < l.length), (l.headD (0, 0)).1 = l[0].1
  | [], h => by simp at h
  | _ :: _, _ => rfl
set_option maxHeartbeats 8000000 in
set_option maxRecDepth 100000 in
theorem refLiteral_any (p : ByteArray) (w : World) :
    Calls Try.prog 18 #[.string p] w fun e w' => e = .returned (.tuple #[.string ⟨(litP p.data.toList).1.toArray⟩, .bool (litP p.data.toList).2]) ∧ Below w.heap.size w w' := by
  have E := Lib.hid (refElems_any p w)
  cases he : parseP p.data.toList with
  | none =>
    have HV := Lib.hid (show litP p.data.toList = ([], false) by unfold litP; rw [he])
    rw [he] at E
    clear he
    go_enter Try.func18, Try.ntmps18
    go_wp2_with fail
    go_fit E.out
    rintro e w1 ⟨hb, h2⟩
    have B := Lib.hid hb
    simp only at h2
    subst h2
    clear hb
    go_wp2_with fail
    go_loopw [6, 7] (fun s6 s7 wr => s6 = .string ⟨#[]⟩ ∧ s7 = .int .i64 0 ∧ Below w.heap.size w wr) (fun _ _ _ => 0)
    case atStart => exact ⟨rfl, rfl, B.out⟩
    case round =>
      obtain ⟨rfl, rfl, hb⟩ := hrel
      have B2 := Lib.hid hb
      clear hb
      go_wp2_with fail
      go_ret2
      exact ⟨by rw [HV.out]; rfl, B2.out⟩
  | some L =>
    have HV := Lib.hid (show litP p.data.toList = litL L by unfold litP; rw [he])
    have HI := Lib.hid (parseP_items he)
    rw [he] at E
    clear he
    go_enter Try.func18, Try.ntmps18
    go_wp2_with fail
    go_fit E.out
    rintro e w1 ⟨hb, a, c, rfl, _, _, hl, hr⟩
    have B := Lib.hid hb
    have R := Lib.hid hr
    have HL := Lib.hid hl
    have l0 : (0 : Int) ≤ L.length ∧ (L.length : Int) ≤ 4096 := by omega
    clear hb hr hl
    go_wp2_with fail
    go_loopw [6, 7] (fun s6 s7 wr => ∃ (i : Nat) (acc : List UInt8), s7 = .int .i64 (i : Int) ∧ s6 = .string ⟨acc.toArray⟩ ∧ i ≤ L.length ∧ acc.length = i ∧ litL L = (acc ++ (litL (L.drop i)).1, (litL (L.drop i)).2) ∧ Below w1.heap.size w1 wr) (fun _ s7 _ => L.length - (RowKit.intOf s7).toNat)
    case atStart => exact ⟨0, [], rfl, rfl, by omega, rfl, by simp, Below.refl _ _⟩
    case round =>
      obtain ⟨i, acc, rfl, rfl, hi, hal, hli, hb⟩ := hrel
      have HLI := Lib.hid (And.intro hal hli)
      have HB := Lib.hid hb
      obtain ⟨S, hS⟩ : ∃ S : ByteArray, S = ⟨acc.toArray⟩ := ⟨_, rfl⟩
      rw [← hS]
      have HS := Lib.hid hS
      by_cases hlt : i < L.length
      · obtain ⟨b, iv, ic, rfl, hb9, d1, d2, d3, d4⟩ := R.out.below hb i hlt
        rw [Nat.mul_comm] at d1 d2
        obtain ⟨x, hx⟩ : ∃ x, x = L[i] := ⟨_, rfl⟩
        rw [← hx] at d1 d2 d3 d4
        have HX := Lib.hid (show ∃ h : i < L.length, L[i] = x from ⟨hlt, hx.symm⟩)
        have i1 : (0 : Int) ≤ i ∧ (i : Int) < (L.length : Int) := by omega
        by_cases h5 : x.kind = 5
        · have hil := (HI.out.2 x (by rw [hx]; exact List.getElem_mem hlt)).2.2 h5
          obtain ⟨b2, rfl, -, -, e1, -⟩ := d4 0 (by omega)
          have hcc : (x.items.headD (0, 0)).1 = (x.items[0]'(by omega)).1 := headD_at _ _
          obtain ⟨cc, hc⟩ : ∃ cc, cc = (x.items[0]'(by omega)).1 := ⟨_, rfl⟩
          rw [← hc] at e1 hcc
          rw [Nat.mul_zero] at e1
          rw [hil] at d2
          rw [h5] at d1
          have HCC := Lib.hid hcc
          have HK5 := Lib.hid h5
          have hcv : (convert 45 9 (.slice (some ⟨wr.heap.size, 0, none⟩) 1 1)).run Try.prog (wr.alloc (Obj.cells #[.int .u8 (cc.toNat : Int)] 5)) = .ok (.string ⟨#[cc]⟩) (wr.alloc (Obj.cells #[.int .u8 (cc.toNat : Int)] 5)) := conv_str (some ⟨wr.heap.size, 0, none⟩) [cc] (wr.alloc (Obj.cells #[.int .u8 (cc.toNat : Int)] 5)) (fun k hk => by
            simp at hk
            subst hk
            exact ⟨_, _, rfl, by simp, (BlkAt.new wr 5 #[.int .u8 (cc.toNat : Int)]).cell (k := 0) rfl⟩) 1
          have hsz : (S.size : Int) ≤ 4096 := by
            have : S.size = acc.length := by rw [hS, sizeL]
            have := HL.out
            omega
          have hsum := fun w => run_string_add_sum (P := Try.prog) w S ⟨#[cc]⟩ (by show S.size + 1 ≤ _; omega)
          have HLT := Lib.hid hlt
          clear hx hcc hc hil h5 d3 hS hb hli hal hi hlt
          go_wp2_with fail
          go_roundw
          case rel =>
            obtain ⟨h, e⟩ := HX.out
            refine ⟨i + 1, acc ++ [cc], by go_num, ?_, h, by rw [List.length_append, List.length_singleton, HLI.out.1], ?_, HB.out.alloc HB.out.size _⟩
            · rw [HS.out]
              congr 1
            · rw [HLI.out.2, List.drop_eq_getElem_cons h, e, litL_cons_yes HK5.out, HCC.out]
              simp
          case measure => have := HLT.out; simp [RowKit.intOf]; omega
        · have HK5 := Lib.hid h5
          have h6 : ((x.kind : Int) != 5) = true := by rw [bne_iff_ne]; omega
          generalize x.kind = kk at d1 h6
          clear hx h5 d2 d3 d4 hS hb hli hal hi hlt
          go_wp2_with fail
          go_ret2
          refine ⟨?_, B.out.trans (HB.out.mono B.out.size)⟩
          obtain ⟨h, e⟩ := HX.out
          rw [HV.out, HLI.out.2, List.drop_eq_getElem_cons h, e, litL_cons_no HK5.out, List.append_nil, HS.out]
          rfl
      · obtain rfl : i = L.length := by omega
        have HE := Lib.hid (show litL L = (acc, true) by rw [hli, List.drop_eq_nil_of_le (Nat.le_refl _)]; show (acc ++ [], true) = _; rw [List.append_nil])
        clear hlt hli hal hi hb hS
        go_wp2_with fail
        go_ret2
        exact ⟨by rw [HV.out, HE.out, HS.out]; rfl, B.out.trans (HB.out.mono B.out.size)⟩
end Go.Proofs.Ytaalfnfikjmomaa
