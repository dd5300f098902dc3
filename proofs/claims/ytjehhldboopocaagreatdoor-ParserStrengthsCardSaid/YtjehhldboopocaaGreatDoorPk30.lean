/- Contracts of functions of the program, and what they are made of (parser; Pk30). -/
import Derived.Test.YtjehhldboopocaaGreatDoorPk14
import Derived.Test.YtjehhldboopocaaGreatDoorPk28
import Derived.Test.YtjehhldboopocaaGreatDoorPk29
namespace Go.Proofs.YtjehhldboopocaaGreatDoor.Lx
open Go.RowKit Go.Lib
set_option linter.unusedVariables false
section
variable {w0 : World} {ta : Option Addr} {tc : Nat} {toks : List Tm} {R : Nat}
set_option maxHeartbeats 8000000 in
set_option maxRecDepth 100000 in
theorem entries_of (hE : EnvR w0 ta toks) (f : Nat) (hC : ∀ f', f' < f → PartOk w0 ta tc toks R 51 #[.pointer (some ⟨R, 0, none⟩)] f' .cond)
    (Z : Nat → Prop) (i : Nat) (G : Value) (L : List Xp) (w : World) (hZ : ∀ k, Z k → k < w.heap.size) (h : RS w0 ta tc toks Z R i G L w) (hne : pP toks f (.lst [125] true true [] []) i ≠ .out) :
    Calls Tryz.prog 231 #[.pointer (some ⟨R, 0, none⟩)] w (Done w0 ta tc toks Z R i G L w ((pP toks f (.lst [125] true true [] []) i).bind fun x a => .ok (.mk 10 zeroV [] x.ar x.ky) a)) := by
  obtain ⟨r, hr⟩ : ∃ r, r = pP toks f (.lst [125] true true [] []) i := ⟨_, rfl⟩
  have hRlt := h.Rlt
  have hg := h.glt
  have hLi := h.hL
  have B2 : Below w.heap.size w ((w.alloc (.cells #[.pointer (some ⟨R, 0, none⟩)] 81)).alloc (.cells #[.slice none 0 0] 24)) := ((Below.refl _ w).alloc (Nat.le_refl _) _).alloc (by simp) _
  have RS2 : RS w0 ta tc toks (ZK Z (w.heap.size + 1) (.slice none 0 0)) R i G L ((w.alloc (.cells #[.pointer (some ⟨R, 0, none⟩)] 81)).alloc (.cells #[.slice none 0 0] 24)) :=
    h.stay (B2.mono (by have := h.below.size; exact this)) (B2.block _ hRlt) (fun g hgg => B2.block g (hg g hgg).2) fun k hk h2 => ⟨B2.block k hk, by
      rintro (e | e | e)
      · exact h2.2.2 e
      · omega
      · simp [Value.ownBlock] at e⟩
  have KS2 : KeyS R w.heap.size (w.heap.size + 1) w.heap.size G [] (.slice none 0 0) ((w.alloc (.cells #[.pointer (some ⟨R, 0, none⟩)] 81)).alloc (.cells #[.slice none 0 0] 24)) := by
    refine ⟨?_, (CellsAt.new w _ _).alloc _, World.ownsRow_nil _ _ _ _, hRlt, by omega, Nat.le_refl _, by omega, ?_, ?_, by simp [Value.ownBlock], by simp [Value.ownBlock], fun g e => by simp [Value.ownBlock] at e, by simp⟩
    · have := CellsAt.new (w.alloc (.cells #[.pointer (some ⟨R, 0, none⟩)] 81)) 24 #[.slice none 0 0]
      simpa using this
    · intro e
      have := (hg _ e.symm).2
      omega
    · intro e
      have := (hg _ e.symm).2
      omega
  have IT := itemsE_of hE f [125] (by simp) hC Z i G L _ hZ RS2 KS2 hne
  rw [← hr] at IT hne ⊢
  have IT := Lib.hid IT
  obtain ⟨Q, hQ⟩ : ∃ Q, Q = Done w0 ta tc toks Z R i G L w (r.bind fun x a => .ok (.mk 10 zeroV [] x.ar x.ky) a) := ⟨_, rfl⟩
  rw [← hQ]
  have HQ := Lib.hid hQ
  have HNE := Lib.hid hne
  have HE := Lib.hid hE
  have HB2 := Lib.hid B2
  have HZ := Lib.hid hZ
  clear hQ hne hC h hr B2 RS2 KS2 hE hZ
  go_enter Tryz.func231, Tryz.ntmps231
  go_wp2_with fail
  go_fit IT.out
  clear IT
  cases r with
  | out => exact absurd rfl HNE.out
  | err a er =>
    rintro e w3 ⟨rfl, ⟨G3, f3⟩, hb3, hc3⟩
    have F3 := Lib.hid (((Fm.of_below HB2.out).toN (Nat.le_refl _)).trans f3).toFm
    have HB3 := Lib.hid hb3
    have HC3 := Lib.hid hc3
    clear f3 hb3 hc3
    go_wp2_with fail
    rw [HQ.out]
    exact ⟨rfl, rfl, ⟨G3, F3.out⟩, HB3.out, HC3.out⟩
  | ok x a =>
    rintro e w3 ⟨rfl, hlt3, G3, kv, h3, f3, k3, hkl0⟩
    have F3 := Lib.hid (((Fm.of_below HB2.out).toN (Nat.le_refl _)).trans f3).toFm
    have HQ2 := Lib.hid (show Q = Done w0 ta tc toks Z R i G L w (.ok (.mk 10 zeroV [] x.ar x.ky) a) by rw [HQ.out]; cases x; rfl)
    obtain ⟨l, hl⟩ : ∃ l, l = x.ar := ⟨_, rfl⟩
    obtain ⟨ks, hks⟩ : ∃ ks, ks = x.ky := ⟨_, rfl⟩
    rw [← hl, ← hks] at HQ2
    rw [← hl] at h3 hkl0 ⊢
    rw [← hks] at k3 hkl0
    have hll : L.length + l.length ≤ a := by have := h3.hL; rw [List.length_append] at this; exact this
    have hal := h3.hi
    have few := HE.out.few
    obtain ⟨kp, kc, rfl, hkc1, hkc2⟩ : ∃ kp kc, kv = .slice kp ks.length kc ∧ ks.length ≤ kc ∧ kc ≤ 9223372036854775807 := by
      rcases own_shape k3.row with ⟨e, e2, _⟩ | ⟨g, cap, e, h1, h2, _⟩
      · exact ⟨none, 0, by rw [e, e2], by omega, by omega⟩
      · exact ⟨_, cap, e, h1, by unfold maxLen at h2; omega⟩
    have hL1 : L.length + 1 ≤ a := by omega
    have hzn : w.heap.size ≤ w3.heap.size := F3.out.size
    have BB := Lib.hid (fun (W : World) (hb : Below w3.heap.size w3 W) => build_any (A := l) few ((h3.less fun k hk hz => .inl hz).on hb) (lo_Z HZ.out (Nat.le_trans hzn hb.size)) hL1 (l.length : Int) rfl 10 [] (by omega) (by simp))
    have KK := Lib.hid (fun (G' : Value) (w4 : World) (hf : Fm R G3 G' w3.drew w4) => k3.stay ((Fm.of_below (Below.refl _ w3).drew).trans hf))
    have c0 := k3.kc.cell (k := 0) (u := .slice kp ks.length kc) rfl
    have c1 := k3.bc.cell (k := 0) (u := .pointer (some ⟨R, 0, none⟩)) rfl
    have HRO := Lib.hid k3
    obtain ⟨nl, hnl⟩ : ∃ nl, nl = l.length := ⟨_, rfl⟩
    rw [← hnl] at BB ⊢
    have hkl : ks.length * 16 ≤ 140737488351232 := by omega
    have HNLL := Lib.hid hnl
    have H3 := Lib.hid h3
    clear HQ hl hks f3 k3 HNE hnl hkl0 h3 hll hLi
    go_wp2_with fail
    go_region_with (go_at_call 92; go_fit (BB.out _ (Below.refl _ w3).drew); rintro e w4 ⟨g, cap, rfl, h4, f4⟩; have H4 := Lib.hid h4; have F4 := Lib.hid f4; obtain ⟨hc, hf⟩ := top_cells h4; obtain ⟨u9, d9⟩ := hc 9 (by decide); have f9 := hf (L.length * 10 + 9); have K4 := Lib.hid (KK.out _ _ f4); have k0 := K4.out.kc.cell (k := 0) (u := .slice kp ks.length kc) rfl; clear h4 f4 hc hf; go_wp2_with fail)
    all_goals
      go_wp2_with fail
      go_end0
      have hK4 := K4.out
      have hZ4 : ∀ q, kp = some q → OkB Z R (.slice (some ⟨g, 0, none⟩) (L.length + 1) cap) q.block := fun q hq => by
        have hob : (Value.slice kp ks.length kc).ownBlock = some q.block := by rw [hq]; rfl
        have h1 := (World.ownsRow.lt hK4.row q.block hob).1
        refine ⟨by omega, hK4.gr q.block hob, fun hz => by have := HZ.out _ hz; omega⟩
      have hst : StD (OkB Z R (.slice (some ⟨g, 0, none⟩) (L.length + 1) cap)) w4 fun w' => ReadsStr w' kp ks := fun w' hz' hk' => by
        obtain ⟨a1, c1, e1, _, _, hrd⟩ := own_readsS hK4.row rfl
        injection e1 with e1 e2 e3
        subst e1
        intro k hk
        obtain ⟨b5, o5, e5, hb5, hc5⟩ := hrd k hk
        exact ⟨b5, o5, e5, Nat.lt_of_lt_of_le hb5 hz', (World.cell?_of_block (w := w4) (a := ⟨b5, o5 + k, none⟩) (hk' b5 hb5 (hZ4 _ e5))).trans hc5⟩
      obtain ⟨t1, t2⟩ := top_keys H4.out ks kp kc ⟨hkl, hkc1, hkc2⟩ (fun x hx => by have := hK4.len x hx; omega) hst _ rfl
      rw [HQ2.out]
      exact ⟨rfl, hlt3, _, t1, ((F3.out.trans (Fm.of_below (Below.refl _ w3).drew)).trans F4.out).trans t2⟩
end
end Go.Proofs.YtjehhldboopocaaGreatDoor.Lx
namespace Go.Proofs.YtjehhldboopocaaGreatDoor.Lx
open Go.RowKit Go.Lib
set_option linter.unusedVariables false
section
variable {w0 : World} {ta : Option Addr} {tc : Nat} {toks : List Tm} {R : Nat}
/-- What a name begins. -/
def nmP (toks : List Tm) (f : Nat) (s : List UInt8) (i : Nat) : PR Vl := if s = nulS then .ok (.mk 1 zeroV [] [] []) (i + 1) else if s = truS ∨ s = falS then .ok (.mk 1 (litV 1 (decide (s = truS)) 0 ⟨#[]⟩) [] [] []) (i + 1)
  else if opTk (tsOf toks) (i + 1) [40] = true then (pP toks f (.lst [41] false true [] []) (i + 2)).bind fun x a => .ok (node litsP 5 s x.ar) a else .ok (node litsP 2 s []) (i + 1)
set_option maxHeartbeats 8000000 in
set_option maxRecDepth 100000 in
theorem named_of (hE : EnvR w0 ta toks) (f : Nat) (hC : ∀ f', f' < f → PartOk w0 ta tc toks R 51 #[.pointer (some ⟨R, 0, none⟩)] f' .cond)
    (Z : Nat → Prop) (i : Nat) (G : Value) (L : List Xp) (w : World) (hZ : ∀ k, Z k → k < w.heap.size) (h : RS w0 ta tc toks Z R i G L w) (s : List UInt8) (hx : nxt toks i = (1, s)) (hne : nmP toks f s i ≠ .out) :
    Calls Tryz.prog 229 #[.pointer (some ⟨R, 0, none⟩)] w (Done w0 ta tc toks Z R i G L w (nmP toks f s i)) := by
  obtain ⟨r, hr⟩ : ∃ r, r = nmP toks f s i := ⟨_, rfl⟩
  rw [← hr] at hne ⊢
  obtain ⟨Q, hQ⟩ : ∃ Q, Q = Done w0 ta tc toks Z R i G L w r := ⟨_, rfl⟩
  rw [← hQ]
  have D := read_any hE h (nxt_lt hx (by decide))
  have hLi := h.hL
  have hsl := nxt_len (toks := toks) (i := i)
  rw [hx] at hsl D
  dsimp only at hsl D
  obtain ⟨sx, hsx⟩ : ∃ sx : ByteArray, sx = ⟨s.toArray⟩ := ⟨_, rfl⟩
  have hl : sx.toList = s := by rw [ByteArray.toList_eq, hsx]
  have W := Lib.hid (fun w => isWord_any s w)
  rw [← hsx] at D W
  have D := Lib.hid D
  have HQ := Lib.hid hQ
  have HN := Lib.hid hne
  have HR := Lib.hid hr
  have HE := Lib.hid hE
  have HC := Lib.hid hC
  have HZ := Lib.hid hZ
  have HSX := Lib.hid hsx
  have few := hE.few
  have ft := field_text
  clear hQ hr hE hC h hx hsx hne
  by_cases h1 : s = nulS
  · have e1 : (sx.toList == [110, 117, 108, 108]) = true := by rw [hl, h1]; rfl
    have q := HR.out
    unfold nmP at q
    rw [if_pos h1] at q
    have HR2 := Lib.hid q
    clear q hl h1 W HR
    go_enter Tryz.func229, Tryz.ntmps229
    go_wp2_with fail
    go_fit D.out
    rintro e w1 ⟨na, rfl, h1, f1⟩
    have LL := Lib.hid (literal_any HE.out.few h1 (lo_Z HZ.out f1.size) (by omega) 0 false 0 ⟨#[]⟩ (by omega) (by omega) (by decide))
    have F1 := Lib.hid f1
    clear h1 f1 D
    go_wp2_with fail
    go_fit LL.out
    rintro e w2 ⟨rfl, G2, h2, f2⟩
    have H2 := Lib.hid h2
    have F2 := Lib.hid (F1.out.trans f2)
    clear h2 f2
    go_wp2_with fail
    go_end0
    rw [HQ.out, HR2.out]
    exact ⟨rfl, by omega, _, H2.out, F2.out⟩
  · have e1 : (sx.toList == [110, 117, 108, 108]) = false := by rw [hl, beq_eq_false_iff_ne]; exact h1
    by_cases h2 : s = truS ∨ s = falS
    · have hw : wordB s = true := by unfold wordB; rcases h2 with e | e <;> simp [e]
      have q := HR.out
      unfold nmP at q
      rw [if_neg h1, if_pos h2] at q
      have hb : decide (s = truS) = (sx.toList == [116, 114, 117, 101]) := by rw [hl, dec_beq]; rfl
      rw [hb] at q
      rw [hw] at W
      have HR2 := Lib.hid q
      obtain ⟨b, hbb⟩ : ∃ b, b = (sx.toList == [116, 114, 117, 101]) := ⟨_, rfl⟩
      have HBB := Lib.hid hbb
      clear q hl h1 h2 HR hw hb hbb
      go_enter Tryz.func229, Tryz.ntmps229
      go_wp2_with fail
      go_fit D.out
      rintro e w1 ⟨na, rfl, h1, f1⟩
      have LL := Lib.hid (literal_any HE.out.few h1 (lo_Z HZ.out f1.size) (by omega) 1 (sx.toList == [116, 114, 117, 101]) 0 ⟨#[]⟩ (by omega) (by omega) (by decide))
      have F1 := Lib.hid f1
      clear h1 f1 D
      go_wp2_with fail
      go_fit (W.out _)
      rintro e w2 ⟨rfl, rfl⟩
      go_wp2_with fail
      go_fit LL.out
      rintro e w2 ⟨rfl, G2, h2, f2⟩
      have H2 := Lib.hid h2
      have F2 := Lib.hid (F1.out.trans f2)
      clear h2 f2
      go_wp2_with fail
      go_end0
      rw [HQ.out, HR2.out]
      exact ⟨rfl, by omega, _, H2.out, F2.out⟩
    · have hw : wordB s = false := by
        unfold wordB
        rw [decide_eq_false h1, decide_eq_false (fun e => h2 (.inl e)), decide_eq_false (fun e => h2 (.inr e))]
        rfl
      have q := HR.out
      unfold nmP at q
      rw [if_neg h1, if_neg h2] at q
      rw [hw] at W
      have HR2 := Lib.hid q
      clear q hl h1 h2 HR hw
      go_enter Tryz.func229, Tryz.ntmps229
      go_wp2_with fail
      go_fit D.out
      rintro e w1 ⟨na, rfl, h1, f1⟩
      have F1 := Lib.hid f1
      have HZ1 := Lib.hid (lo_Z HZ.out f1.size)
      by_cases hq : nxt toks (i + 1) = (4, [40])
      · have A1 := Lib.hid (accept_yes HE.out h1 hq)
        have q := HR2.out
        rw [if_pos ((op_nxt _ _ _).2 hq)] at q
        have hn := HN.out
        rw [q] at hn
        have HNI := Lib.hid (bind_out hn)
        obtain ⟨r2, hr2⟩ : ∃ r2, r2 = pP toks f (.lst [41] false true [] []) (i + 2) := ⟨_, rfl⟩
        rw [← hr2] at q
        have HQ2 := Lib.hid (show Q = Done w0 ta tc toks Z R i G L w (r2.bind fun x a => .ok (node litsP 5 s x.ar) a) by rw [HQ.out, q])
        have HRR := Lib.hid hr2
        clear q hq hn hr2 h1 f1 D HQ HR2
        go_wp2_with fail
        go_fit (W.out _)
        rintro e w2 ⟨rfl, rfl⟩
        go_wp2_with fail
        go_fit A1.out
        rintro e w2 ⟨rfl, h2, f2⟩
        have F2 := Lib.hid (F1.out.trans f2)
        have HZ2 := Lib.hid (lo_Z HZ1.out f2.size)
        have IT := items_of HE.out f [41] (by simp) HC.out Z (i + 2) G L w2 HZ2.out h2 HNI.out
        rw [← HRR.out] at IT
        have IT := Lib.hid IT
        have HN2 := Lib.hid (show r2 ≠ .out by rw [HRR.out]; exact HNI.out)
        clear h2 f2 A1 HNI HRR
        go_wp2_with fail
        go_fit IT.out
        clear IT
        cases r2 with
        | out => exact absurd rfl HN2.out
        | err a er =>
          rintro e w3 ⟨rfl, ⟨G3, f3⟩, hb3, hc3⟩
          have F3 := Lib.hid (F2.out.trans f3)
          have HB3 := Lib.hid hb3
          have HC3 := Lib.hid hc3
          clear f3 hb3 hc3
          go_wp2_with fail
          rw [HQ2.out]
          exact ⟨rfl, rfl, ⟨G3, F3.out⟩, HB3.out, HC3.out⟩
        | ok x a =>
          rintro e w3 ⟨rfl, hlt3, G3, h3, f3⟩
          have F3 := Lib.hid (F2.out.trans f3)
          have hL3 := h3.hL
          rw [List.length_append] at hL3
          have BB := build_any (A := x.ar) HE.out.few h3 (lo_Z HZ2.out f3.size) (by omega) (x.ar.length : Int) rfl 5 s (by omega) (by omega)
          rw [← HSX.out] at BB
          have BB := Lib.hid BB
          obtain ⟨nl, hnl⟩ : ∃ nl, nl = x.ar.length := ⟨_, rfl⟩
          rw [← hnl] at BB ⊢
          clear h3 f3 hnl hL3
          go_wp2_with fail
          go_fit BB.out
          rintro e w5 ⟨g, cap, rfl, h5, f5⟩
          have H5 := Lib.hid h5
          have F5 := Lib.hid (F3.out.trans f5)
          clear h5 f5
          go_wp2_with fail
          go_end0
          rw [HQ2.out]
          exact ⟨rfl, by omega, _, H5.out, F5.out⟩
      · have A1 := Lib.hid (accept_no h1 hq (by decide))
        have q := HR2.out
        rw [op_nxt_no hq, if_neg (by decide)] at q
        have HQ2 := Lib.hid (show Q = Done w0 ta tc toks Z R i G L w (.ok (node litsP 2 s []) (i + 1)) by rw [HQ.out, q])
        have BB := build_any (A := []) HE.out.few (show RS w0 ta tc toks Z R (i + 1) G (L ++ []) w1 by rw [List.append_nil]; exact h1) HZ1.out (by omega) 0 rfl 2 s (by omega) (by omega)
        rw [← HSX.out] at BB
        have BB := Lib.hid BB
        clear q hq h1 f1 D HQ HR2
        go_wp2_with fail
        go_fit (W.out _)
        rintro e w2 ⟨rfl, rfl⟩
        go_wp2_with fail
        go_fit A1.out
        rintro e w2 ⟨rfl, rfl⟩
        go_wp2_with fail
        go_fit BB.out
        rintro e w5 ⟨g, cap, rfl, h5, f5⟩
        have H5 := Lib.hid h5
        have F5 := Lib.hid (F1.out.trans f5)
        clear h5 f5
        go_wp2_with fail
        go_end0
        rw [HQ2.out]
        exact ⟨rfl, by omega, _, H5.out, F5.out⟩
end
end Go.Proofs.YtjehhldboopocaaGreatDoor.Lx
namespace Go.Proofs.YtjehhldboopocaaGreatDoor.Lx
open Go.RowKit Go.Lib
set_option linter.unusedVariables false
theorem atoi_int (s : List UInt8) (hs : intB s = true) (sx : ByteArray) (hsx : sx = ⟨s.toArray⟩) (w : World) :
    Calls Tryz.prog 159 #[.string sx] w fun e w' => e = .returned (.tuple #[.int .i64 (undec s : Nat), .nilIface]) ∧ Below w.heap.size w w' := by
  have hd : sx.data.toList = s := by rw [hsx]
  unfold intB at hs
  simp only [Bool.and_eq_true, decide_eq_true_eq, Bool.not_eq_true', List.all_eq_true] at hs
  obtain ⟨⟨⟨⟨h1, h2⟩, h3⟩, h4⟩, h5⟩ := hs
  have h0 : s ≠ [] := by intro e; rw [e] at h1; simp at h1
  have hdg : ∀ c ∈ s, 48 ≤ c.toNat ∧ c.toNat ≤ 57 := fun c hc => by
    have := h4 c hc
    unfold dgB at this
    simp only [Bool.and_eq_true, decide_eq_true_eq] at this
    exact this
  obtain ⟨h6, _⟩ := atoi_digits h0 hdg
  have hv : valL 0 s = undec s := rfl
  rw [hv, if_pos (by omega)] at h6
  have hz : sx.size ≤ 16 := by have := lenB sx; rw [hd] at this; omega
  refine (Tryz.strconv_Atoi_ok sx (by omega) _ (by rw [hd]; exact h6) w).mono ?_
  rintro e w' ⟨rfl, hw⟩
  refine ⟨rfl, ?_⟩
  rcases hw with rfl | ⟨t, rfl⟩
  · exact Below.refl _ _
  · exact Lib.bytesWorld_below _ _ _
section
variable {w0 : World} {ta : Option Addr} {tc : Nat} {toks : List Tm} {R : Nat}
theorem atm_int (f i : Nat) {s : List UInt8} (hx : nxt toks i = (2, s)) : pP toks (f + 1) .atm i = .ok (.mk 1 (litV 2 false (undec s : Nat) ⟨#[]⟩) [] [] []) (i + 1) := by
  show (match (tsOf toks)[i]? with | none => _ | some (k, s) => _) = _
  rw [get_nxt hx (by decide)]
  dsimp only
  rw [if_pos rfl, if_pos (show intB s = true from nxt_name hx (by decide))]
  rfl
theorem atm_str (f i : Nat) {s : List UInt8} (hx : nxt toks i = (3, s)) : pP toks (f + 1) .atm i = .ok (.mk 1 (litV 3 false 0 ⟨s.toArray⟩) [] [] []) (i + 1) := by
  show (match (tsOf toks)[i]? with | none => _ | some (k, s) => _) = _
  rw [get_nxt hx (by decide)]
  dsimp only
  have hl := nxt_len (toks := toks) (i := i)
  rw [hx] at hl
  rw [if_neg (by decide), if_pos rfl, if_pos hl]
  rfl
theorem atm_name (f i : Nat) {s : List UInt8} (hx : nxt toks i = (1, s)) : pP toks (f + 1) .atm i = nmP toks f s i := by
  show (match (tsOf toks)[i]? with | none => _ | some (k, s) => _) = _
  rw [get_nxt hx (by decide)]
  dsimp only
  rw [if_neg (by decide), if_neg (by decide), if_pos rfl]
  unfold nmP
  by_cases h1 : s = nulS
  · rw [if_pos h1, if_pos h1]; rfl
  rw [if_neg h1, if_neg h1]
  by_cases h2 : s = truS ∨ s = falS
  · rw [if_pos h2, if_pos h2]; rfl
  rw [if_neg h2, if_neg h2, if_pos (show nameB s = true from nxt_name hx (by decide))]
  by_cases h3 : opTk (tsOf toks) (i + 1) [40] = true
  · rw [if_pos h3, if_pos h3]
    congr 1
    funext x a
    cases x
    rfl
  · rw [if_neg h3, if_neg h3]
theorem atm_par (f i : Nat) (hx : nxt toks i = (4, [40])) : pP toks (f + 1) .atm i = (pP toks f .cond (i + 1)).bind fun x a => if opTk (tsOf toks) a [41] = true then .ok x (a + 1) else .err a (miss (tsOf toks) a) := by
  show (match (tsOf toks)[i]? with | none => _ | some (k, s) => _) = _
  rw [get_nxt hx (by decide)]
  rfl
theorem atm_list (f i : Nat) (hx : nxt toks i = (4, [91])) : pP toks (f + 1) .atm i = (pP toks f (.lst [93] false true [] []) (i + 1)).bind fun x a => .ok (node litsP 9 [] x.ar) a := by
  show (match (tsOf toks)[i]? with | none => _ | some (k, s) => _) = _
  rw [get_nxt hx (by decide)]
  show (pP toks f (.lst [93] false true [] []) (i + 1)).bind _ = _
  congr 1
  funext x a
  cases x
  rfl
theorem atm_map (f i : Nat) (hx : nxt toks i = (4, [123])) : pP toks (f + 1) .atm i = (pP toks f (.lst [125] true true [] []) (i + 1)).bind fun x a => .ok (.mk 10 zeroV [] x.ar x.ky) a := by
  show (match (tsOf toks)[i]? with | none => _ | some (k, s) => _) = _
  rw [get_nxt hx (by decide)]
  show (pP toks f (.lst [125] true true [] []) (i + 1)).bind _ = _
  congr 1
  funext x a
  cases x
  rfl
theorem atm_no (f i : Nat) (h1 : (nxt toks i).1 ≠ 1) (h2 : (nxt toks i).1 ≠ 2) (h3 : (nxt toks i).1 ≠ 3) (h4 : ¬ nxt toks i = (4, [40])) (h5 : ¬ nxt toks i = (4, [91])) (h6 : ¬ nxt toks i = (4, [123])) :
    pP toks (f + 1) .atm i = .err i (miss (tsOf toks) i) := by
  cases e : (tsOf toks)[i]? with
  | none =>
    have hm : miss (tsOf toks) i = 4 := by
      unfold miss
      rw [if_pos (List.getElem?_eq_none_iff.1 e)]
    show (match (tsOf toks)[i]? with | none => (PR.err i 4 : PR Vl) | some (k, s) => _) = _
    rw [e, hm]
  | some x =>
    obtain ⟨k, s⟩ := x
    have hm : miss (tsOf toks) i = 5 := by
      unfold miss
      rw [if_neg (by have := (List.getElem?_eq_some_iff.1 e).1; omega)]
    have hn : nxt toks i = (k, s) := by unfold nxt; rw [e]; rfl
    rw [hn] at h1 h2 h3 h4 h5 h6
    dsimp only at h1 h2 h3
    show (match (tsOf toks)[i]? with | none => _ | some (k, s) => _) = _
    rw [e, hm]
    dsimp only
    rw [if_neg h2, if_neg h3, if_neg h1]
    by_cases hk : k = 4
    · subst hk
      rw [if_pos rfl, if_neg (fun e => h4 (by rw [e])), if_neg (fun e => h5 (by rw [e])), if_neg (fun e => h6 (by rw [e]))]
    · rw [if_neg hk]
end
end Go.Proofs.YtjehhldboopocaaGreatDoor.Lx
namespace Go.Proofs.YtjehhldboopocaaGreatDoor.Lx
open Go.RowKit Go.Lib
set_option linter.unusedVariables false
section
variable {w0 : World} {ta : Option Addr} {tc : Nat} {toks : List Tm} {R : Nat}
set_option maxHeartbeats 8000000 in
set_option maxRecDepth 100000 in
theorem atom_lit (hE : EnvR w0 ta toks) (f : Nat) (Z : Nat → Prop) (i : Nat) (G : Value) (L : List Xp) (w : World) (hZ : ∀ k, Z k → k < w.heap.size) (h : RS w0 ta tc toks Z R i G L w) (k : Int) (s : List UInt8) (hx : nxt toks i = (k, s)) (hk : k = 2 ∨ k = 3) :
    Calls Tryz.prog 203 #[.pointer (some ⟨R, 0, none⟩)] w (Done w0 ta tc toks Z R i G L w (pP toks (f + 1) .atm i)) := by
  obtain ⟨na, hc⟩ := h.box
  have D := read_any hE h (nxt_lt hx (by omega))
  have hLi := h.hL
  have hsl := nxt_len (toks := toks) (i := i)
  rw [hx] at hc D hsl
  dsimp only at D hsl
  have c2 := hc.cell (k := 2) (u := .int .i64 k) rfl
  obtain ⟨sx, hsx⟩ : ∃ sx : ByteArray, sx = ⟨s.toArray⟩ := ⟨_, rfl⟩
  rw [← hsx] at D
  have ft := field_text
  have few := hE.few
  have HZ := Lib.hid hZ
  obtain ⟨r, hr⟩ : ∃ r, r = pP toks (f + 1) .atm i := ⟨_, rfl⟩
  rw [← hr]
  rcases hk with rfl | rfl
  · rw [atm_int f i hx] at hr
    have AT := Lib.hid (fun w => atoi_int s (nxt_name hx (by decide)) sx hsx w)
    have hu : undec s ≤ 9007199254740992 := by
      have h2 : intB s = true := nxt_name hx (by decide)
      unfold intB at h2
      simp only [Bool.and_eq_true, decide_eq_true_eq] at h2
      exact h2.2
    obtain ⟨n, hn⟩ : ∃ n, n = undec s := ⟨_, rfl⟩
    rw [← hn] at AT hr hu
    obtain ⟨Q, hQ⟩ : ∃ Q, Q = Done w0 ta tc toks Z R i G L w r := ⟨_, rfl⟩
    rw [← hQ]
    rw [hr] at hQ
    have HQ := Lib.hid hQ
    have D := Lib.hid D
    clear hQ hr hn h hx hc hsx hE hZ
    go_enter Tryz.func203, Tryz.ntmps203
    go_wp2_with fail
    go_fit D.out
    rintro e w1 ⟨na2, rfl, h1, f1⟩
    have F1 := Lib.hid f1
    have H1 := Lib.hid h1
    have hz1 := f1.size
    clear h1 f1 D
    go_wp2_with fail
    go_fit (AT.out _)
    rintro e w2 ⟨rfl, hb2⟩
    have LL := Lib.hid (literal_any few (H1.out.on hb2) (lo_Z HZ.out (Nat.le_trans hz1 hb2.size)) (by omega) 2 false (n : Nat) ⟨#[]⟩ (by omega) (by omega) (by decide))
    have F2 := Lib.hid (F1.out.trans (Fm.of_below hb2))
    clear hb2 AT
    go_wp2_with fail
    go_fit LL.out
    rintro e w3 ⟨rfl, G3, h3, f3⟩
    have H3 := Lib.hid h3
    have F3 := Lib.hid (F2.out.trans f3)
    clear h3 f3
    go_wp2_with fail
    go_end0
    rw [HQ.out]
    exact ⟨rfl, by omega, _, H3.out, F3.out⟩
  · rw [atm_str f i hx, ← hsx] at hr
    have hsz : sx.size ≤ 140737488351232 := by
      have := lenB sx
      rw [hsx] at this ⊢
      simp at this ⊢
      omega
    obtain ⟨Q, hQ⟩ : ∃ Q, Q = Done w0 ta tc toks Z R i G L w r := ⟨_, rfl⟩
    rw [← hQ]
    rw [hr] at hQ
    have HQ := Lib.hid hQ
    have D := Lib.hid D
    clear hQ hr h hx hc hsx hE hZ
    go_enter Tryz.func203, Tryz.ntmps203
    go_wp2_with fail
    go_fit D.out
    rintro e w1 ⟨na2, rfl, h1, f1⟩
    have LL := Lib.hid (literal_any few h1 (lo_Z HZ.out f1.size) (by omega) 3 false 0 sx (by omega) (by omega) hsz)
    have F1 := Lib.hid f1
    clear h1 f1 D
    go_wp2_with fail
    go_fit LL.out
    rintro e w3 ⟨rfl, G3, h3, f3⟩
    have H3 := Lib.hid h3
    have F3 := Lib.hid (F1.out.trans f3)
    clear h3 f3
    go_wp2_with fail
    go_end0
    rw [HQ.out]
    exact ⟨rfl, by omega, _, H3.out, F3.out⟩
set_option maxHeartbeats 8000000 in
set_option maxRecDepth 100000 in
theorem atom_of (hE : EnvR w0 ta toks) (f : Nat) (hC : ∀ f', f' ≤ f → PartOk w0 ta tc toks R 51 #[.pointer (some ⟨R, 0, none⟩)] f' .cond) :
    PartOk w0 ta tc toks R 203 #[.pointer (some ⟨R, 0, none⟩)] (f + 1) .atm := by
  intro Z i G L w hZ h hne
  obtain ⟨⟨k, s⟩, hx⟩ : ∃ x, nxt toks i = x := ⟨_, rfl⟩
  by_cases h23 : k = 2 ∨ k = 3
  · exact atom_lit hE f Z i G L w hZ h k s hx h23
  have hk2 : (k == 2) = false := by rw [beq_eq_false_iff_ne]; exact fun e => h23 (.inl e)
  have hk3 : (k == 3) = false := by rw [beq_eq_false_iff_ne]; exact fun e => h23 (.inr e)
  obtain ⟨na, hc⟩ := h.box
  have hc' := hc
  rw [hx] at hc'
  have c2 := hc'.cell (k := 2) (u := .int .i64 k) rfl
  clear hc hc'
  obtain ⟨r, hr⟩ : ∃ r, r = pP toks (f + 1) .atm i := ⟨_, rfl⟩
  rw [← hr] at hne ⊢
  obtain ⟨Q, hQ⟩ : ∃ Q, Q = Done w0 ta tc toks Z R i G L w r := ⟨_, rfl⟩
  rw [← hQ]
  have HZ := Lib.hid hZ
  have HE := Lib.hid hE
  have HC := Lib.hid hC
  by_cases hk1 : k = 1
  · subst hk1
    rw [atm_name f i hx] at hr
    have NN := named_of hE f (fun f' hf => hC f' (by omega)) Z i G L w hZ h s hx (by rw [← hr]; exact hne)
    rw [← hr] at NN
    have NN := Lib.hid NN
    have HQ := Lib.hid hQ
    have HN := Lib.hid hne
    clear hQ hr hne h hx hE hZ hC h23
    go_enter Tryz.func203, Tryz.ntmps203
    go_wp2_with fail
    go_fit NN.out
    clear NN
    cases r with
    | out => exact absurd rfl HN.out
    | err a er =>
      intro e w4 hd
      have HD := Lib.hid hd
      obtain rfl := hd.1
      clear hd
      go_wp2_with fail
      rw [HQ.out]
      exact ⟨rfl, HD.out⟩
    | ok x a =>
      intro e w4 hd
      have HD := Lib.hid hd
      obtain rfl := hd.1
      clear hd
      go_wp2_with fail
      go_end0
      rw [HQ.out]
      exact HD.out
  have hk1b : (k == 1) = false := by rw [beq_eq_false_iff_ne]; exact hk1
  have HQ := Lib.hid hQ
  have HN := Lib.hid hne
  have HH := Lib.hid h
  have hLi := h.hL
  by_cases hp : nxt toks i = (4, [40])
  · have A1 := Lib.hid (accept_yes hE h hp)
    rw [atm_par f i hp] at hr
    have HNC := Lib.hid (bind_out (show (pP toks f .cond (i + 1)).bind _ ≠ .out by rw [← hr]; exact hne))
    obtain ⟨r2, hr2⟩ : ∃ r2, r2 = pP toks f .cond (i + 1) := ⟨_, rfl⟩
    rw [← hr2] at hr
    have HR := Lib.hid hr
    have HR2 := Lib.hid hr2
    clear hQ hr hr2 hne h hx hE hZ hC h23 hp hk1
    go_enter Tryz.func203, Tryz.ntmps203
    go_wp2_with fail
    go_fit A1.out
    rintro e w1 ⟨rfl, h1, f1⟩
    have CC := HC.out f (Nat.le_refl _) Z (i + 1) G L w1 (lo_Z HZ.out f1.size) h1 HNC.out
    rw [← HR2.out] at CC
    have CC := Lib.hid CC
    have F1 := Lib.hid f1
    clear h1 f1 A1 HNC HR2
    go_wp2_with fail
    go_fit CC.out
    clear CC
    cases r2 with
    | out => exact absurd HR.out HN.out
    | err a er =>
      intro e w4 hd
      have HD := Lib.hid (done_pass (Z := Z) (i := i) (L := L) F1.out hd)
      obtain rfl := hd.1
      clear hd
      go_wp2_with fail
      rw [HQ.out, HR.out]
      exact ⟨rfl, HD.out⟩
    | ok x a =>
      rintro e w4 ⟨rfl, hlt4, G4, h4, f4⟩
      have F4 := Lib.hid (F1.out.trans f4)
      have q := HR.out
      change r = (if opTk (tsOf toks) a [41] = true then .ok x (a + 1) else .err a (miss (tsOf toks) a)) at q
      by_cases hq : nxt toks a = (4, [41])
      · rw [if_pos ((op_nxt _ _ _).2 hq)] at q
        have N := Lib.hid (need_yes HE.out h4 hq)
        have HRR := Lib.hid q
        clear q hq h4 f4 HR
        go_wp2_with fail
        go_fit N.out
        rintro e w5 ⟨rfl, h5, f5⟩
        have H5 := Lib.hid h5
        have F5 := Lib.hid (F4.out.trans f5)
        clear h5 f5
        go_wp2_with fail
        go_end0
        rw [HQ.out, HRR.out]
        exact ⟨rfl, by omega, _, H5.out, F5.out⟩
      · rw [op_nxt_no hq, if_neg (by decide)] at q
        have N := Lib.hid (need_no h4 hq (by decide))
        have H4 := Lib.hid h4
        obtain ⟨er, her⟩ : ∃ er, er = miss (tsOf toks) a := ⟨_, rfl⟩
        rw [← her] at N q
        have HRR := Lib.hid q
        clear q hq h4 f4 HR her
        go_wp2_with fail
        go_fit N.out
        rintro e w5 ⟨rfl, hb⟩
        have HD := Lib.hid (done_err (Z := Z) (i := i) (L := L) (er := er) (i1 := 0) H4.out F4.out hb)
        clear hb
        go_wp2_with fail
        rw [HQ.out, HRR.out]
        exact ⟨rfl, HD.out⟩
  have A1 := Lib.hid (accept_no h hp (by decide))
  by_cases hl : nxt toks i = (4, [91])
  · have A2 := Lib.hid (accept_yes hE h hl)
    rw [atm_list f i hl] at hr
    have HNI := Lib.hid (bind_out (show (pP toks f (.lst [93] false true [] []) (i + 1)).bind _ ≠ .out by rw [← hr]; exact hne))
    obtain ⟨r2, hr2⟩ : ∃ r2, r2 = pP toks f (.lst [93] false true [] []) (i + 1) := ⟨_, rfl⟩
    rw [← hr2] at hr
    have HR := Lib.hid hr
    have HR2 := Lib.hid hr2
    clear hQ hr hr2 hne h hx hE hZ hC h23 hp hk1 hl
    go_enter Tryz.func203, Tryz.ntmps203
    go_wp2_with fail
    go_fit A1.out
    rintro e w1 ⟨rfl, rfl⟩
    go_wp2_with fail
    go_fit A2.out
    rintro e w1 ⟨rfl, h1, f1⟩
    have IT := items_of HE.out f [93] (by simp) (fun f' hf => HC.out f' (by omega)) Z (i + 1) G L w1 (lo_Z HZ.out f1.size) h1 HNI.out
    rw [← HR2.out] at IT
    have IT := Lib.hid IT
    have F1 := Lib.hid f1
    have HZ1 := Lib.hid (lo_Z HZ.out f1.size)
    clear h1 f1 A1 A2 HNI HR2
    go_wp2_with fail
    go_fit IT.out
    clear IT
    cases r2 with
    | out => exact absurd HR.out HN.out
    | err a er =>
      rintro e w3 ⟨rfl, ⟨G3, f3⟩, hb3, hc3⟩
      have F3 := Lib.hid (F1.out.trans f3)
      have HB3 := Lib.hid hb3
      have HC3 := Lib.hid hc3
      clear f3 hb3 hc3
      go_wp2_with fail
      rw [HQ.out, HR.out]
      exact ⟨rfl, rfl, ⟨G3, F3.out⟩, HB3.out, HC3.out⟩
    | ok x a =>
      rintro e w3 ⟨rfl, hlt3, G3, h3, f3⟩
      have F3 := Lib.hid (F1.out.trans f3)
      have hL3 := h3.hL
      rw [List.length_append] at hL3
      have BB := Lib.hid (build_any (A := x.ar) HE.out.few h3 (lo_Z HZ1.out f3.size) (by omega) (x.ar.length : Int) rfl 9 [] (by omega) (by simp))
      obtain ⟨nl, hnl⟩ : ∃ nl, nl = x.ar.length := ⟨_, rfl⟩
      rw [← hnl] at BB ⊢
      clear h3 f3 hnl hL3
      go_wp2_with fail
      go_fit BB.out
      rintro e w5 ⟨g, cap, rfl, h5, f5⟩
      have H5 := Lib.hid h5
      have F5 := Lib.hid (F3.out.trans f5)
      clear h5 f5
      go_wp2_with fail
      go_end0
      rw [HQ.out, HR.out]
      exact ⟨rfl, by omega, _, H5.out, F5.out⟩
  have A2 := Lib.hid (accept_no h hl (by decide))
  by_cases hm : nxt toks i = (4, [123])
  · have A3 := Lib.hid (accept_yes hE h hm)
    rw [atm_map f i hm] at hr
    have HNI := Lib.hid (bind_out (show (pP toks f (.lst [125] true true [] []) (i + 1)).bind _ ≠ .out by rw [← hr]; exact hne))
    have HR := Lib.hid hr
    clear hQ hr hne h hx hE hZ hC h23 hp hk1 hl hm
    go_enter Tryz.func203, Tryz.ntmps203
    go_wp2_with fail
    go_fit A1.out
    rintro e w1 ⟨rfl, rfl⟩
    go_wp2_with fail
    go_fit A2.out
    rintro e w1 ⟨rfl, rfl⟩
    go_wp2_with fail
    go_fit A3.out
    rintro e w1 ⟨rfl, h1, f1⟩
    have EN := entries_of HE.out f (fun f' hf => HC.out f' (by omega)) Z (i + 1) G L w1 (lo_Z HZ.out f1.size) h1 HNI.out
    rw [← HR.out] at EN
    have EN := Lib.hid EN
    have F1 := Lib.hid f1
    clear h1 f1 A1 A2 A3 HNI HR
    go_wp2_with fail
    go_fit EN.out
    clear EN
    cases r with
    | out => exact absurd rfl HN.out
    | err a er =>
      intro e w4 hd
      have HD := Lib.hid (done_pass (Z := Z) (i := i) (L := L) F1.out hd)
      obtain rfl := hd.1
      clear hd
      go_wp2_with fail
      rw [HQ.out]
      exact ⟨rfl, HD.out⟩
    | ok x a =>
      rintro e w4 ⟨rfl, hlt4, G4, h4, f4⟩
      have H4 := Lib.hid h4
      have F4 := Lib.hid (F1.out.trans f4)
      clear h4 f4
      go_wp2_with fail
      go_end0
      rw [HQ.out]
      exact ⟨rfl, by omega, _, H4.out, F4.out⟩
  have A3 := Lib.hid (accept_no h hm (by decide))
  rw [atm_no f i (by rw [hx]; exact hk1) (by rw [hx]; exact fun e => h23 (.inl e)) (by rw [hx]; exact fun e => h23 (.inr e)) hp hl hm] at hr
  have F := Lib.hid (refusal_any h)
  obtain ⟨er, her⟩ : ∃ er, er = miss (tsOf toks) i := ⟨_, rfl⟩
  rw [← her] at F hr
  have HR := Lib.hid hr
  clear hQ hr hne h hx hE hZ hC h23 hp hk1 hl hm her
  go_enter Tryz.func203, Tryz.ntmps203
  go_wp2_with fail
  go_fit A1.out
  rintro e w1 ⟨rfl, rfl⟩
  go_wp2_with fail
  go_fit A2.out
  rintro e w1 ⟨rfl, rfl⟩
  go_wp2_with fail
  go_fit A3.out
  rintro e w1 ⟨rfl, rfl⟩
  go_wp2_with fail
  go_fit F.out
  rintro e w5 ⟨rfl, hb⟩
  have HD := Lib.hid (done_err (Z := Z) (i := i) (L := L) (er := er) (i1 := 0) HH.out (Fm.refl _ _ _) hb)
  clear hb
  go_wp2_with fail
  rw [HQ.out, HR.out]
  exact ⟨rfl, HD.out⟩
end
end Go.Proofs.YtjehhldboopocaaGreatDoor.Lx
