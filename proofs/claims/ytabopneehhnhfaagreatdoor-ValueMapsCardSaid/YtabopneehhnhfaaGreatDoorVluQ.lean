/- The document's Map (pipelineref07). -/
import Derived.Test.YtabopneehhnhfaaGreatDoorVluE
import Derived.Test.YtabopneehhnhfaaGreatDoorVluB
import Derived.Deep.RegionHeld3
namespace Go.Proofs.YtabopneehhnhfaaGreatDoor
open Go.RowKit Go.Lib

theorem six_box {w : World} {g : Nat} {t : TypeId} {a0 a1 a2 a3 a4 a5 : Value} (h : CellsAt w g t #[a0, a1, a2, a3, a4, a5]) (v0 v1 v2 v3 v4 v5 : Value) :
    CellsAt ((((((w.setCell ⟨g, 0, none⟩ v0).setCell ⟨g, 1, none⟩ v1).setCell ⟨g, 2, none⟩ v2).setCell ⟨g, 3, none⟩ v3).setCell ⟨g, 4, none⟩ v4).setCell ⟨g, 5, none⟩ v5) g t #[v0, v1, v2, v3, v4, v5] ∧
    From (g + 1) w ((((((w.setCell ⟨g, 0, none⟩ v0).setCell ⟨g, 1, none⟩ v1).setCell ⟨g, 2, none⟩ v2).setCell ⟨g, 3, none⟩ v3).setCell ⟨g, 4, none⟩ v4).setCell ⟨g, 5, none⟩ v5) ∧
    ((((((w.setCell ⟨g, 0, none⟩ v0).setCell ⟨g, 1, none⟩ v1).setCell ⟨g, 2, none⟩ v2).setCell ⟨g, 3, none⟩ v3).setCell ⟨g, 4, none⟩ v4).setCell ⟨g, 5, none⟩ v5).heap.size = w.heap.size ∧
    ∀ n w0, n ≤ g → Below n w0 w → Below n w0 ((((((w.setCell ⟨g, 0, none⟩ v0).setCell ⟨g, 1, none⟩ v1).setCell ⟨g, 2, none⟩ v2).setCell ⟨g, 3, none⟩ v3).setCell ⟨g, 4, none⟩ v4).setCell ⟨g, 5, none⟩ v5) := by
  refine ⟨(((((h.set 0 v0).set 1 v1).set 2 v2).set 3 v3).set 4 v4).set 5 v5, ?_, by simp, fun n w0 hn hb => ?_⟩
  · exact (((((From.set (Nat.lt_succ_self g) 0 v0).trans (From.set (Nat.lt_succ_self g) 1 v1)).trans (From.set (Nat.lt_succ_self g) 2 v2)).trans (From.set (Nat.lt_succ_self g) 3 v3)).trans (From.set (Nat.lt_succ_self g) 4 v4)).trans (From.set (Nat.lt_succ_self g) 5 v5)
  · exact (((((hb.setCell (p := ⟨g, 0, none⟩) hn v0).setCell (p := ⟨g, 1, none⟩) hn v1).setCell (p := ⟨g, 2, none⟩) hn v2).setCell (p := ⟨g, 3, none⟩) hn v3).setCell (p := ⟨g, 4, none⟩) hn v4).setCell (p := ⟨g, 5, none⟩) hn v5
/-- The box of the map and the name of an entry. -/
def S7 (w : World) (B b o : Nat) (sl kl : Value) (nm : ByteArray) (w' : World) : Prop :=
  w'.cell? ⟨B, 0, none⟩ = some (.int .i64 5) ∧ w'.cell? ⟨B, 1, none⟩ = some (.bool false) ∧ w'.cell? ⟨B, 2, none⟩ = some (.int .i64 0) ∧ w'.cell? ⟨B, 3, none⟩ = some (.string ⟨#[]⟩) ∧ w'.cell? ⟨B, 4, none⟩ = some sl ∧ w'.cell? ⟨B, 5, none⟩ = some kl ∧ w'.cell? ⟨b, o, none⟩ = some (.string nm) ∧ Below w.heap.size w w'
theorem S7.below {w : World} {B b o : Nat} {sl kl : Value} {nm : ByteArray} {w1 w2 : World} (h : S7 w B b o sl kl nm w1) (hb : Below w1.heap.size w1 w2) : S7 w B b o sl kl nm w2 := by
  obtain ⟨x0, x1, x2, x3, x4, x5, y0, h1⟩ := h
  have z1 : B < w1.heap.size := World.block_lt_of_cell? w1 _ x0
  have z2 : b < w1.heap.size := World.block_lt_of_cell? w1 _ y0
  exact ⟨(hb.cell (p := ⟨B, _, none⟩) z1).trans x0, (hb.cell (p := ⟨B, _, none⟩) z1).trans x1, (hb.cell (p := ⟨B, _, none⟩) z1).trans x2, (hb.cell (p := ⟨B, _, none⟩) z1).trans x3, (hb.cell (p := ⟨B, _, none⟩) z1).trans x4, (hb.cell (p := ⟨B, _, none⟩) z1).trans x5, (hb.cell (p := ⟨b, _, none⟩) z2).trans y0, h1.trans (hb.mono h1.size)⟩
theorem S7.drew {w : World} {B b o : Nat} {sl kl : Value} {nm : ByteArray} {w1 : World} (h : S7 w B b o sl kl nm w1) : S7 w B b o sl kl nm w1.drew := h.below (Below.refl _ _).drew
theorem S7.bel {w : World} {B b o : Nat} {sl kl : Value} {nm : ByteArray} {w1 : World} (h : S7 w B b o sl kl nm w1) : Below w.heap.size w w1 := h.2.2.2.2.2.2.2
theorem getP_iff (S : List Vr) (n : List UInt8) : (getV (pairV S) n).isSome = decide (n ∈ S.map (·.1)) := by
  rw [pairV, getV, if_pos rfl]
  cases hf : firstK (S.map (·.1)) n with
  | none =>
    unfold firstK at hf
    rw [List.findIdx?_eq_none_iff] at hf
    have : ¬ n ∈ S.map (·.1) := fun h => by have := hf n h; simp at this
    rw [decide_eq_false this]
    rfl
  | some j =>
    unfold firstK at hf
    obtain ⟨hj, h1, _⟩ := List.findIdx?_eq_some_iff_getElem.1 hf
    have hm : n ∈ S.map (·.1) := by
      have e : (S.map (·.1))[j] = n := by simpa using h1
      rw [← e]
      exact List.getElem_mem hj
    rw [decide_eq_true hm]
    have hj2 : j < (S.map (·.2)).length := by rw [List.length_map] at hj ⊢; exact hj
    show ((S.map (·.2))[j]?).isSome = true
    rw [List.getElem?_eq_getElem hj2]
    rfl
theorem sortM_snoc (l : List Vr) (p : Vr) : sortM (l ++ [p]) = insM p (sortM l) := by
  unfold sortM
  rw [List.foldl_append]
  rfl
theorem errM_mem : ∀ (l : List Vr) (S T : List (List UInt8)), (∀ n, n ∈ S ↔ n ∈ T) → errM S l = errM T l
  | [], S, T, _ => rfl
  | p :: r, S, T, h => by
    rw [errM_cons, errM_cons, errM_mem r (p.1 :: S) (p.1 :: T) (fun n => by simp only [List.mem_cons, h n])]
    simp only [h p.1]
/-- What Map of the document holds after some entries. -/
structure MapS (m : Nat) (w w' : World) (B : Nat) (S : List Vr) : Prop where
  box : ∃ av c2 kv kc, CellsAt w' B 25 #[.int .i64 5, .bool false, .int .i64 0, .string ⟨#[]⟩, .slice av S.length c2, .slice kv S.length kc] ∧ (∀ w2, From (B + 1) w' w2 → ReadsStr w2 kv (S.map (·.1)) ∧ RowAt w w2 m av (S.map (·.2))) ∧ S.length ≤ c2 ∧ c2 ≤ 9223372036854775807 ∧ S.length ≤ kc ∧ kc ≤ 9223372036854775807
  res : CellsAt w' w.heap.size 25 #[.int .i64 0, .bool false, .int .i64 0, .string ⟨#[]⟩, .slice none 0 0, .slice none 0 0]
  bel : Below w.heap.size w w'
theorem MapS.below {m : Nat} {w w1 w2 : World} {B : Nat} {S : List Vr} (h : MapS m w w1 B S) (hb : Below w1.heap.size w1 w2) : MapS m w w2 B S := by
  obtain ⟨av, c2, kv, kc, h1, h2, h3⟩ := h.box
  exact ⟨⟨av, c2, kv, kc, h1.below hb, fun w3 hf => h2 w3 ((From.of_below hb).trans hf), h3⟩, h.res.below hb, h.bel.trans (hb.mono h.bel.size)⟩
theorem rows_isV {m : Nat} {w w2 : World} {S : List Vr} {av kv : Option Addr} {c2 kc : Nat} (h : ReadsStr w2 kv (S.map (·.1)) ∧ RowAt w w2 m av (S.map (·.2))) (hb : Below w.heap.size w w2) (h1 : S.length ≤ c2) (h2 : c2 ≤ 9223372036854775807) (h3 : S.length ≤ kc) (h4 : kc ≤ 9223372036854775807) (hlen : S.length ≤ 1024) (hn : ∀ p, p ∈ S → p.1.length ≤ 140737488351232) :
    IsV (m + 1) w2 (.agg #[.int .i64 5, .bool false, .int .i64 0, .string ⟨#[]⟩, .slice av S.length c2, .slice kv S.length kc]) (pairV S) := by
  have e1 : (S.map (·.1)).length = S.length := List.length_map _
  have e2 : (S.map (·.2)).length = S.length := List.length_map _
  refine ⟨5, false, 0, ⟨#[]⟩, S.map (·.2), S.map (·.1), av, c2, kv, kc, rfl, by rw [e1, e2], by decide, by decide, by decide, by omega, by omega, h2, by omega, by omega, h4, fun x hx => ?_, h.1, h.2.reads hb⟩
  obtain ⟨p, hp, rfl⟩ := List.mem_map.1 hx
  exact hn p hp
set_option maxRecDepth 100000 in
set_option maxHeartbeats 8000000 in
theorem rMap_any (m : Nat) (v : Option Addr) (l : List Vr) (c : Nat) (w : World) (hr : ReadsR m w v l) (hlen : l.length ≤ 9223372036854775000) :
    Calls Tryz.prog 22 #[.slice v l.length c] w fun e w' => ∃ R, e = .returned (.tuple #[R, .int .i64 (errVs l : Nat)]) ∧ IsV (m + 1) w' R (if errVs l = 0 then mapV l else zeroV) ∧ Below w.heap.size w w' := by
  obtain ⟨G, hG⟩ : ∃ G, G = (if errVs l = 0 then mapV l else zeroV) := ⟨_, rfl⟩
  obtain ⟨er, her⟩ : ∃ er, er = errVs l := ⟨_, rfl⟩
  rw [← hG, ← her]
  have HG := Lib.hid (And.intro hG her)
  clear hG her
  have HR := Lib.hid hr
  have Z0 := CellsAt.new w 25 #[.int .i64 0, .bool false, .int .i64 0, .string ⟨#[]⟩, .slice none 0 0, .slice none 0 0]
  have B0 : Below w.heap.size w (w.alloc (.cells #[.int .i64 0, .bool false, .int .i64 0, .string ⟨#[]⟩, .slice none 0 0, .slice none 0 0] 25)) := (Below.refl w.heap.size w).alloc (Nat.le_refl _) _
  have HNL := Lib.hid (show ∀ p, p ∈ l → p.1.length ≤ 140737488351232 from fun p hp => by
    obtain ⟨j, hj, rfl⟩ := List.getElem_of_mem hp
    obtain ⟨b, off, n, k, t, i, s, l', ks, av, c, kv, kc, g0, g1, g2, c0, c1, c2, c3, c4, c5, c6, gn, _⟩ := hr j hj
    rw [(List.getElem?_eq_some_iff.1 g0).2]
    exact gn)
  clear hr
  by_cases hlong : 1024 < l.length
  · have hE : errVs l = 3 := if_pos hlong
    have g : (1024 : Int) < (l.length : Int) := by omega
    have h9 := HG.out
    rw [hE, if_neg (by decide)] at h9
    rw [h9.1, h9.2]
    clear hE hlong HR HNL HG h9
    have z0 : (w.alloc (.cells #[.int .i64 0, .bool false, .int .i64 0, .string ⟨#[]⟩, .slice none 0 0, .slice none 0 0] 25)).cell? ⟨w.heap.size, 0, none⟩ = some (.int .i64 0) := Z0.cell rfl
    have z1 : (w.alloc (.cells #[.int .i64 0, .bool false, .int .i64 0, .string ⟨#[]⟩, .slice none 0 0, .slice none 0 0] 25)).cell? ⟨w.heap.size, 1, none⟩ = some (.bool false) := Z0.cell rfl
    have z2 : (w.alloc (.cells #[.int .i64 0, .bool false, .int .i64 0, .string ⟨#[]⟩, .slice none 0 0, .slice none 0 0] 25)).cell? ⟨w.heap.size, 2, none⟩ = some (.int .i64 0) := Z0.cell rfl
    have z3 : (w.alloc (.cells #[.int .i64 0, .bool false, .int .i64 0, .string ⟨#[]⟩, .slice none 0 0, .slice none 0 0] 25)).cell? ⟨w.heap.size, 3, none⟩ = some (.string ⟨#[]⟩) := Z0.cell rfl
    have z4 : (w.alloc (.cells #[.int .i64 0, .bool false, .int .i64 0, .string ⟨#[]⟩, .slice none 0 0, .slice none 0 0] 25)).cell? ⟨w.heap.size, 4, none⟩ = some (.slice none 0 0) := Z0.cell rfl
    have z5 : (w.alloc (.cells #[.int .i64 0, .bool false, .int .i64 0, .string ⟨#[]⟩, .slice none 0 0, .slice none 0 0] 25)).cell? ⟨w.heap.size, 5, none⟩ = some (.slice none 0 0) := Z0.cell rfl
    go_enter Tryz.func22, Tryz.ntmps22
    go_wp2_with fail
    exact bodyPost_ret (v := .tuple #[.agg #[.int .i64 0, .bool false, .int .i64 0, .string ⟨#[]⟩, .slice none 0 0, .slice none 0 0], .int .i64 3]) (by simp [results, Tryz.f22, go_sem, z0, z1, z2, z3, z4, z5]) rfl ⟨_, rfl, isV_zero _ _, B0⟩
  · have hlg : ¬ (1024 : Int) < (l.length : Int) := by omega
    have hl4 : l.length ≤ 1024 := by omega
    have HEL := Lib.hid (show errVs l = errM [] l from if_neg hlong)
    have B1 := Lib.hid (B0.alloc B0.size (.cells #[.int .i64 5, .bool false, .int .i64 0, .string ⟨#[]⟩, .slice none 0 0, .slice none 0 0] 25))
    have M0 : MapS m w ((w.alloc (.cells #[.int .i64 0, .bool false, .int .i64 0, .string ⟨#[]⟩, .slice none 0 0, .slice none 0 0] 25)).alloc (.cells #[.int .i64 5, .bool false, .int .i64 0, .string ⟨#[]⟩, .slice none 0 0, .slice none 0 0] 25)) (w.heap.size + 1) [] := by
      have C := CellsAt.new (w.alloc (.cells #[.int .i64 0, .bool false, .int .i64 0, .string ⟨#[]⟩, .slice none 0 0, .slice none 0 0] 25)) 25 #[.int .i64 5, .bool false, .int .i64 0, .string ⟨#[]⟩, .slice none 0 0, .slice none 0 0]
      simp only [World.size_alloc] at C
      exact ⟨⟨none, 0, none, 0, C, fun w2 _ => ⟨fun k hk => by simp at hk, fun k hk => by simp at hk⟩, by simp, by simp, by simp, by simp⟩, Z0.alloc _, B1.out⟩
    have M0 := Lib.hid M0
    clear Z0 B0 B1 hlong
    go_enter Tryz.func22, Tryz.ntmps22
    go_wp2_with fail
    obtain ⟨B, hB⟩ : ∃ B, B = w.heap.size + 1 := ⟨_, rfl⟩
    have HBB := Lib.hid hB
    rw [← hB] at M0 ⊢
    clear hB
    go_loopw [5] (fun s5 wr => ∃ (j : Nat) (S : List Vr), j ≤ l.length ∧ s5 = .int .i64 (j : Int) ∧ Hid (S = sortM (l.take j)) ∧ Hid (MapS m w wr B S) ∧ Hid (errVs l = errM (S.map (·.1)) (l.drop j))) (fun s5 _ => l.length - (RowKit.intOf s5).toNat)
    case atStart => exact ⟨0, [], by omega, rfl, Lib.hid rfl, M0, Lib.hid HEL.out⟩
    case round =>
      obtain ⟨j, S, hj, rfl, HS, HM, HER⟩ := hrel
      clear M0
      have hSl : S.length = j := by rw [HS.out, (sortM_perm _).length_eq, List.length_take]; omega
      have HSL := Lib.hid hSl
      have HSN := Lib.hid (show ∀ p, p ∈ S → p.1.length ≤ 140737488351232 from fun p hp => by
        rw [HS.out] at hp
        exact HNL.out p (List.mem_of_mem_take ((sortM_perm _).mem_iff.1 hp)))
      clear hSl
      by_cases hlt : j < l.length
      · obtain ⟨b, off, n, k1, t1, i1, s1, l1, ks1, av1, c1, kv1, kc1, h0, rfl, h2, e0, e1, e2, e3, e4, e5, e6, gn, g0, g1, g2, g3, g4, g5, g6, g7, g8, g9, rs, rv⟩ := HR.out j hlt
        have HI := Lib.hid (show IsV m w (.agg #[.int .i64 k1, .bool t1, .int .i64 i1, .string s1, .slice av1 l1.length c1, .slice kv1 ks1.length kc1]) (.mk k1 t1 i1 s1 l1 ks1) from ⟨k1, t1, i1, s1, l1, ks1, av1, c1, kv1, kc1, rfl, rfl, g0, g1, g2, g3, g4, g5, g6, g7, g8, g9, rs, rv⟩)
        have HCE := Lib.hid (And.intro h2 (And.intro e0 (And.intro e1 (And.intro e2 (And.intro e3 (And.intro e4 (And.intro e5 e6)))))))
        have HN := Lib.hid gn
        have hdrop := errM_drop (S.map (·.1)) l j _ h0
        rw [← HER.out] at hdrop
        have HD := Lib.hid hdrop
        have hjI : (j : Int) < (l.length : Int) := by omega
        have hj0 : (0 : Int) ≤ (j : Int) := by omega
        have HJ0 := Lib.hid h0
        have VV := Lib.hid (fun w' (h : Below w.heap.size w w') => refValidV_any m _ _ w' (HI.out.below h))
        have KY := Lib.hid (fun w' => keyV_any ⟨n.toArray⟩ w')
        rw [show (⟨n.toArray⟩ : ByteArray).data.toList = n from rfl] at KY
        clear e0 e1 e2 e3 e4 e5 e6 gn g0 g1 g2 g3 g4 g5 g6 g7 g8 g9 rs rv h0 hdrop h2
        have BW := HM.out.bel
        have y0 := (BW.cell (p := ⟨b, _, none⟩) HCE.out.1).trans HCE.out.2.1
        have y1 := (BW.cell (p := ⟨b, _, none⟩) HCE.out.1).trans HCE.out.2.2.1
        have y2 := (BW.cell (p := ⟨b, _, none⟩) HCE.out.1).trans HCE.out.2.2.2.1
        have y3 := (BW.cell (p := ⟨b, _, none⟩) HCE.out.1).trans HCE.out.2.2.2.2.1
        have y4 := (BW.cell (p := ⟨b, _, none⟩) HCE.out.1).trans HCE.out.2.2.2.2.2.1
        have y5 := (BW.cell (p := ⟨b, _, none⟩) HCE.out.1).trans HCE.out.2.2.2.2.2.2.1
        have y6 := (BW.cell (p := ⟨b, _, none⟩) HCE.out.1).trans HCE.out.2.2.2.2.2.2.2
        clear BW
        cases hkb : keyB n with
        | false =>
          have hE : errVs l = 1 := by rw [HD.out, if_pos (by unfold errR; rw [if_pos hkb]; decide)]; unfold errR; rw [if_pos hkb]
          rw [hkb] at KY
          have hEE := Lib.hid hE
          clear hkb hE
          go_wp2_with fail
          go_fit (KY.out _)
          rintro e w1 ⟨rfl, rfl⟩
          clear y0 y1 y2 y3 y4 y5 y6
          have ZR := HM.out.res
          have z0 : w1.cell? ⟨w.heap.size, 0, none⟩ = some (.int .i64 0) := ZR.cell rfl
          have z1 : w1.cell? ⟨w.heap.size, 1, none⟩ = some (.bool false) := ZR.cell rfl
          have z2 : w1.cell? ⟨w.heap.size, 2, none⟩ = some (.int .i64 0) := ZR.cell rfl
          have z3 : w1.cell? ⟨w.heap.size, 3, none⟩ = some (.string ⟨#[]⟩) := ZR.cell rfl
          have z4 : w1.cell? ⟨w.heap.size, 4, none⟩ = some (.slice none 0 0) := ZR.cell rfl
          have z5 : w1.cell? ⟨w.heap.size, 5, none⟩ = some (.slice none 0 0) := ZR.cell rfl
          have zf := ZR.frozen
          go_wp2_with fail
          obtain ⟨W9, hW9⟩ : ∃ W9, W9 = ((((((w1.setCell ⟨w.heap.size, 0, none⟩ (.int .i64 0)).setCell ⟨w.heap.size, 1, none⟩ (.bool false)).setCell ⟨w.heap.size, 2, none⟩ (.int .i64 0)).setCell ⟨w.heap.size, 3, none⟩ (.string ⟨#[]⟩)).setCell ⟨w.heap.size, 4, none⟩ (.slice none 0 0)).setCell ⟨w.heap.size, 5, none⟩ (.slice none 0 0)) := ⟨_, rfl⟩
          rw [← hW9]
          obtain ⟨⟨cs', G4, h1, h2⟩, h3, h4, h5⟩ := six_set ZR 0 _ _ _ _ _ _ W9 hW9
          obtain ⟨q0, q1, q2, q3, q4, q5⟩ := h1 (by decide)
          have u0 : W9.cell? ⟨w.heap.size, 0, none⟩ = _ := G4.cell q0
          have u1 : W9.cell? ⟨w.heap.size, 1, none⟩ = _ := G4.cell q1
          have u2 : W9.cell? ⟨w.heap.size, 2, none⟩ = _ := G4.cell q2
          have u3 : W9.cell? ⟨w.heap.size, 3, none⟩ = _ := G4.cell q3
          have u4 : W9.cell? ⟨w.heap.size, 4, none⟩ = _ := G4.cell q4
          have u5 : W9.cell? ⟨w.heap.size, 5, none⟩ = _ := G4.cell q5
          have hB := h5 w.heap.size w (Nat.le_refl _) (HM.out.bel)
          have h9 := HG.out
          rw [hEE.out, if_neg (by decide)] at h9
          rw [h9.1, h9.2]
          exact bodyPost_ret (v := .tuple #[.agg #[.int .i64 0, .bool false, .int .i64 0, .string ⟨#[]⟩, .slice none 0 0, .slice none 0 0], .int .i64 1]) (by simp [results, Tryz.f22, go_sem, u0, u1, u2, u3, u4, u5]) rfl ⟨_, rfl, isV_zero _ _, hB⟩
        | true =>
          rw [hkb] at KY
          go_wp2_with fail
          go_fit (KY.out _)
          rintro e w1 ⟨rfl, rfl⟩
          go_wp2_with fail
          go_fit (VV.out _ HM.out.bel)
          rintro e w2 ⟨rfl, hb⟩
          have HM2 := Lib.hid (HM.out.below hb)
          clear hb HM
          clear y0 y1 y2 y3 y4 y5 y6
          by_cases hv : errV 16 (Vl.mk k1 t1 i1 s1 l1 ks1) = 0
          case neg =>
            obtain ⟨z, hz⟩ : ∃ z, z = errV 16 (Vl.mk k1 t1 i1 s1 l1 ks1) := ⟨_, rfl⟩
            have hE : errVs l = z := by
              have e : errR (n, Vl.mk k1 t1 i1 s1 l1 ks1) = z := by unfold errR; rw [if_neg (by rw [hkb]; decide), if_pos hv, hz]
              rw [HD.out, e, if_pos (by rw [hz]; exact hv)]
            have hz0 : z ≠ 0 := by rw [hz]; exact hv
            have g1 : ((z : Int) != 0) = true := by rw [bne_iff_ne]; omega
            rw [← hz] at VV ⊢
            have hEE := Lib.hid (And.intro hE hz0)
            clear hz hE hv hz0
            have ZR := HM2.out.res
            have z0 : w2.cell? ⟨w.heap.size, 0, none⟩ = some (.int .i64 0) := ZR.cell rfl
            have z1 : w2.cell? ⟨w.heap.size, 1, none⟩ = some (.bool false) := ZR.cell rfl
            have z2 : w2.cell? ⟨w.heap.size, 2, none⟩ = some (.int .i64 0) := ZR.cell rfl
            have z3 : w2.cell? ⟨w.heap.size, 3, none⟩ = some (.string ⟨#[]⟩) := ZR.cell rfl
            have z4 : w2.cell? ⟨w.heap.size, 4, none⟩ = some (.slice none 0 0) := ZR.cell rfl
            have z5 : w2.cell? ⟨w.heap.size, 5, none⟩ = some (.slice none 0 0) := ZR.cell rfl
            have zf := ZR.frozen
            go_wp2_with fail
            obtain ⟨W9, hW9⟩ : ∃ W9, W9 = ((((((w2.setCell ⟨w.heap.size, 0, none⟩ (.int .i64 0)).setCell ⟨w.heap.size, 1, none⟩ (.bool false)).setCell ⟨w.heap.size, 2, none⟩ (.int .i64 0)).setCell ⟨w.heap.size, 3, none⟩ (.string ⟨#[]⟩)).setCell ⟨w.heap.size, 4, none⟩ (.slice none 0 0)).setCell ⟨w.heap.size, 5, none⟩ (.slice none 0 0)) := ⟨_, rfl⟩
            rw [← hW9]
            obtain ⟨⟨cs', G4, h1, h2⟩, h3, h4, h5⟩ := six_set ZR 0 _ _ _ _ _ _ W9 hW9
            obtain ⟨q0, q1, q2, q3, q4, q5⟩ := h1 (by decide)
            have u0 : W9.cell? ⟨w.heap.size, 0, none⟩ = _ := G4.cell q0
            have u1 : W9.cell? ⟨w.heap.size, 1, none⟩ = _ := G4.cell q1
            have u2 : W9.cell? ⟨w.heap.size, 2, none⟩ = _ := G4.cell q2
            have u3 : W9.cell? ⟨w.heap.size, 3, none⟩ = _ := G4.cell q3
            have u4 : W9.cell? ⟨w.heap.size, 4, none⟩ = _ := G4.cell q4
            have u5 : W9.cell? ⟨w.heap.size, 5, none⟩ = _ := G4.cell q5
            have hB := h5 w.heap.size w (Nat.le_refl _) (HM2.out.bel)
            have h9 := HG.out
            rw [hEE.out.1, if_neg hEE.out.2] at h9
            rw [h9.1, h9.2]
            exact bodyPost_ret (v := .tuple #[.agg #[.int .i64 0, .bool false, .int .i64 0, .string ⟨#[]⟩, .slice none 0 0, .slice none 0 0], .int .i64 (z : Int)]) (by simp [results, Tryz.f22, go_sem, u0, u1, u2, u3, u4, u5]) rfl ⟨_, rfl, isV_zero _ _, hB⟩
          case pos =>
            rw [hv]
            have BW := HM2.out.bel
            have y0 := (BW.cell (p := ⟨b, _, none⟩) HCE.out.1).trans HCE.out.2.1
            have y1 := (BW.cell (p := ⟨b, _, none⟩) HCE.out.1).trans HCE.out.2.2.1
            have y2 := (BW.cell (p := ⟨b, _, none⟩) HCE.out.1).trans HCE.out.2.2.2.1
            have y3 := (BW.cell (p := ⟨b, _, none⟩) HCE.out.1).trans HCE.out.2.2.2.2.1
            have y4 := (BW.cell (p := ⟨b, _, none⟩) HCE.out.1).trans HCE.out.2.2.2.2.2.1
            have y5 := (BW.cell (p := ⟨b, _, none⟩) HCE.out.1).trans HCE.out.2.2.2.2.2.2.1
            have y6 := (BW.cell (p := ⟨b, _, none⟩) HCE.out.1).trans HCE.out.2.2.2.2.2.2.2
            clear BW
            have hfit := fits_is HI.out
            obtain ⟨hlev, hl15⟩ := lev_err 15 m _ hfit hv
            have LV := Lib.hid (fun w' (h : Below w.heap.size w w') => rLevels_any m 16 _ _ w' (by omega) hv (HI.out.below h))
            have hR15 : errR (n, Vl.mk k1 t1 i1 s1 l1 ks1) = errV 15 (Vl.mk k1 t1 i1 s1 l1 ks1) := by unfold errR; rw [if_neg (by rw [hkb]; decide), if_neg (fun h => h hv)]
            go_wp2_with fail
            go_fit (LV.out _ HM2.out.bel)
            rintro e w3 ⟨rfl, hb⟩
            have HM3 := Lib.hid (HM2.out.below hb)
            clear hb HM2 hfit
            clear y0 y1 y2 y3 y4 y5 y6
            generalize levV m (Vl.mk k1 t1 i1 s1 l1 ks1) = lv at *
            by_cases h16 : lv = 15 + 1
            · subst h16
              rw [if_pos rfl] at hl15
              have hE : errVs l = 13 := by rw [HD.out, hR15, hl15, if_pos (by decide)]
              have hEE := Lib.hid hE
              clear hE hR15 hl15 hv hlev
              have ZR := HM3.out.res
              have z0 : w3.cell? ⟨w.heap.size, 0, none⟩ = some (.int .i64 0) := ZR.cell rfl
              have z1 : w3.cell? ⟨w.heap.size, 1, none⟩ = some (.bool false) := ZR.cell rfl
              have z2 : w3.cell? ⟨w.heap.size, 2, none⟩ = some (.int .i64 0) := ZR.cell rfl
              have z3 : w3.cell? ⟨w.heap.size, 3, none⟩ = some (.string ⟨#[]⟩) := ZR.cell rfl
              have z4 : w3.cell? ⟨w.heap.size, 4, none⟩ = some (.slice none 0 0) := ZR.cell rfl
              have z5 : w3.cell? ⟨w.heap.size, 5, none⟩ = some (.slice none 0 0) := ZR.cell rfl
              have zf := ZR.frozen
              go_wp2_with fail
              obtain ⟨W9, hW9⟩ : ∃ W9, W9 = ((((((w3.setCell ⟨w.heap.size, 0, none⟩ (.int .i64 0)).setCell ⟨w.heap.size, 1, none⟩ (.bool false)).setCell ⟨w.heap.size, 2, none⟩ (.int .i64 0)).setCell ⟨w.heap.size, 3, none⟩ (.string ⟨#[]⟩)).setCell ⟨w.heap.size, 4, none⟩ (.slice none 0 0)).setCell ⟨w.heap.size, 5, none⟩ (.slice none 0 0)) := ⟨_, rfl⟩
              rw [← hW9]
              obtain ⟨⟨cs', G4, h1, h2⟩, h3, h4, h5⟩ := six_set ZR 0 _ _ _ _ _ _ W9 hW9
              obtain ⟨q0, q1, q2, q3, q4, q5⟩ := h1 (by decide)
              have u0 : W9.cell? ⟨w.heap.size, 0, none⟩ = _ := G4.cell q0
              have u1 : W9.cell? ⟨w.heap.size, 1, none⟩ = _ := G4.cell q1
              have u2 : W9.cell? ⟨w.heap.size, 2, none⟩ = _ := G4.cell q2
              have u3 : W9.cell? ⟨w.heap.size, 3, none⟩ = _ := G4.cell q3
              have u4 : W9.cell? ⟨w.heap.size, 4, none⟩ = _ := G4.cell q4
              have u5 : W9.cell? ⟨w.heap.size, 5, none⟩ = _ := G4.cell q5
              have hB := h5 w.heap.size w (Nat.le_refl _) (HM3.out.bel)
              have h9 := HG.out
              rw [hEE.out, if_neg (by decide)] at h9
              rw [h9.1, h9.2]
              exact bodyPost_ret (v := .tuple #[.agg #[.int .i64 0, .bool false, .int .i64 0, .string ⟨#[]⟩, .slice none 0 0, .slice none 0 0], .int .i64 13]) (by simp [results, Tryz.f22, go_sem, u0, u1, u2, u3, u4, u5]) rfl ⟨_, rfl, isV_zero _ _, hB⟩
            · rw [if_neg h16] at hl15
              have g16 : ((lv : Int) == 16) = false := by rw [beq_eq_false_iff_ne]; omega
              have hR0 : errR (n, Vl.mk k1 t1 i1 s1 l1 ks1) = 0 := by rw [hR15, hl15]
              obtain ⟨av, c2, kv, kc, hbx, hrw, q1, q2, q3, q4⟩ := HM3.out.box
              have hlS : S.length ≤ 1024 := by have := HSL.out; omega
              have HIV := Lib.hid (rows_isV (hrw w3 (From.refl _ _)) HM3.out.bel q1 q2 q3 q4 hlS HSN.out)
              have GT := Lib.hid (fun w' (h : Below w3.heap.size w3 w') => rGet_any (m + 1) _ (pairV S) ⟨n.toArray⟩ w' (HIV.out.below h))
              rw [show (⟨n.toArray⟩ : ByteArray).data.toList = n from rfl, getP_iff] at GT
              have HRW := Lib.hid hrw
              have HQ := Lib.hid (And.intro q1 (And.intro q2 (And.intro q3 q4)))
              have HBX := Lib.hid hbx
              have BW := HM3.out.bel
              have y0 := (BW.cell (p := ⟨b, _, none⟩) HCE.out.1).trans HCE.out.2.1
              have y1 := (BW.cell (p := ⟨b, _, none⟩) HCE.out.1).trans HCE.out.2.2.1
              have y2 := (BW.cell (p := ⟨b, _, none⟩) HCE.out.1).trans HCE.out.2.2.2.1
              have y3 := (BW.cell (p := ⟨b, _, none⟩) HCE.out.1).trans HCE.out.2.2.2.2.1
              have y4 := (BW.cell (p := ⟨b, _, none⟩) HCE.out.1).trans HCE.out.2.2.2.2.2.1
              have y5 := (BW.cell (p := ⟨b, _, none⟩) HCE.out.1).trans HCE.out.2.2.2.2.2.2.1
              have y6 := (BW.cell (p := ⟨b, _, none⟩) HCE.out.1).trans HCE.out.2.2.2.2.2.2.2
              clear BW
              have x0 : w3.cell? ⟨B, 0, none⟩ = some (.int .i64 5) := hbx.cell rfl
              have x1 : w3.cell? ⟨B, 1, none⟩ = some (.bool false) := hbx.cell rfl
              have x2 : w3.cell? ⟨B, 2, none⟩ = some (.int .i64 0) := hbx.cell rfl
              have x3 : w3.cell? ⟨B, 3, none⟩ = some (.string ⟨#[]⟩) := hbx.cell rfl
              have x4 : w3.cell? ⟨B, 4, none⟩ = some (.slice av S.length c2) := hbx.cell rfl
              have x5 : w3.cell? ⟨B, 5, none⟩ = some (.slice kv S.length kc) := hbx.cell rfl
              clear hR15 hl15 h16 hlev hrw q1 q2 q3 q4 hbx HIV
              by_cases hmem : n ∈ S.map (·.1)
              · rw [decide_eq_true hmem] at GT
                have hE : errVs l = 7 := by rw [HD.out, hR0, if_neg (by decide), if_pos hmem]
                have hEE := Lib.hid hE
                clear hE hmem hR0
                have HY0 := Lib.hid y0
                clear x0 x1 x2 x3 x4 x5 y0 y1 y2 y3 y4 y5 y6
                go_wp2_with fail
                go_cut [8] (fun s8 wx => s8 = .bool true ∧ Hid (Below w3.heap.size w3 wx))
                case first =>
                  have hbd : Below w3.heap.size w3 w3.drew := (Below.refl _ _).drew
                  have hba : Below w3.heap.size w3 (w3.alloc (.cells #[.int .i64 0, .bool false, .int .i64 0, .string ⟨#[]⟩, .slice none 0 0, .slice none 0 0] 25)).drew := ((Below.refl _ _).alloc (Nat.le_refl _) _).drew
                  have CD := HBX.out.below hbd
                  have CA := HBX.out.below hba
                  have x0 : w3.drew.cell? ⟨B, 0, none⟩ = some (.int .i64 5) := CD.cell rfl
                  have x1 : w3.drew.cell? ⟨B, 1, none⟩ = some (.bool false) := CD.cell rfl
                  have x2 : w3.drew.cell? ⟨B, 2, none⟩ = some (.int .i64 0) := CD.cell rfl
                  have x3 : w3.drew.cell? ⟨B, 3, none⟩ = some (.string ⟨#[]⟩) := CD.cell rfl
                  have x4 : w3.drew.cell? ⟨B, 4, none⟩ = some (.slice av S.length c2) := CD.cell rfl
                  have x5 : w3.drew.cell? ⟨B, 5, none⟩ = some (.slice kv S.length kc) := CD.cell rfl
                  have p0 : (w3.alloc (.cells #[.int .i64 0, .bool false, .int .i64 0, .string ⟨#[]⟩, .slice none 0 0, .slice none 0 0] 25)).drew.cell? ⟨B, 0, none⟩ = some (.int .i64 5) := CA.cell rfl
                  have p1 : (w3.alloc (.cells #[.int .i64 0, .bool false, .int .i64 0, .string ⟨#[]⟩, .slice none 0 0, .slice none 0 0] 25)).drew.cell? ⟨B, 1, none⟩ = some (.bool false) := CA.cell rfl
                  have p2 : (w3.alloc (.cells #[.int .i64 0, .bool false, .int .i64 0, .string ⟨#[]⟩, .slice none 0 0, .slice none 0 0] 25)).drew.cell? ⟨B, 2, none⟩ = some (.int .i64 0) := CA.cell rfl
                  have p3 : (w3.alloc (.cells #[.int .i64 0, .bool false, .int .i64 0, .string ⟨#[]⟩, .slice none 0 0, .slice none 0 0] 25)).drew.cell? ⟨B, 3, none⟩ = some (.string ⟨#[]⟩) := CA.cell rfl
                  have p4 : (w3.alloc (.cells #[.int .i64 0, .bool false, .int .i64 0, .string ⟨#[]⟩, .slice none 0 0, .slice none 0 0] 25)).drew.cell? ⟨B, 4, none⟩ = some (.slice av S.length c2) := CA.cell rfl
                  have p5 : (w3.alloc (.cells #[.int .i64 0, .bool false, .int .i64 0, .string ⟨#[]⟩, .slice none 0 0, .slice none 0 0] 25)).drew.cell? ⟨B, 5, none⟩ = some (.slice kv S.length kc) := CA.cell rfl
                  have hbl := World.block_lt_of_cell? w3 _ HY0.out
                  have y0 := (hbd.cell (p := ⟨b, off + j * 7, none⟩) hbl).trans HY0.out
                  have y1 := (hba.cell (p := ⟨b, off + j * 7, none⟩) hbl).trans HY0.out
                  have BD := Lib.hid hbd
                  have BA := Lib.hid hba
                  have CZ0 := Lib.hid ((CellsAt.new w3 25 #[.int .i64 0, .bool false, .int .i64 0, .string ⟨#[]⟩, .slice none 0 0, .slice none 0 0]).drew)
                  clear hbd hba CD CA hbl
                  go_region_law (first
                    | (go_simp; go_at_call 26; go_fit (GT.out _ BD.out); rintro e w4 ⟨R, rfl, hR, hb4⟩; obtain ⟨k9, t9, i9, s9, l9, ks9, a9, c9, b9, d9, _, rfl, _⟩ := hR)
                    | (go_simp; go_at_call 26; go_fit (GT.out _ BA.out); rintro e w4 ⟨R, rfl, hR, hb4⟩; obtain ⟨k9, t9, i9, s9, l9, ks9, a9, c9, b9, d9, _, rfl, _⟩ := hR; have CZ := CZ0.out.below hb4; have z0 : w4.cell? ⟨w3.heap.size, 0, none⟩ = some (.int .i64 0) := CZ.cell rfl; have z1 : w4.cell? ⟨w3.heap.size, 1, none⟩ = some (.bool false) := CZ.cell rfl; have z2 : w4.cell? ⟨w3.heap.size, 2, none⟩ = some (.int .i64 0) := CZ.cell rfl; have z3 : w4.cell? ⟨w3.heap.size, 3, none⟩ = some (.string ⟨#[]⟩) := CZ.cell rfl; have z4 : w4.cell? ⟨w3.heap.size, 4, none⟩ = some (.slice none 0 0) := CZ.cell rfl; have z5 : w4.cell? ⟨w3.heap.size, 5, none⟩ = some (.slice none 0 0) := CZ.cell rfl; have zf := CZ.frozen))
                  all_goals
                    go_wp2_with fail
                    go_meet
                    first
                      | (have hw : Below w3.heap.size w3 (w4.alloc (.cells #[.int .i64 k9, .bool t9, .int .i64 i9, .string s9, .slice a9 l9.length c9, .slice b9 ks9.length d9] 25)) := (BD.out.trans (hb4.mono BD.out.size)).alloc (Nat.le_trans BD.out.size hb4.size) _
                         exact ⟨rfl, Lib.hid hw⟩)
                      | (obtain ⟨_, _, _, S4⟩ := six_box CZ (.int .i64 k9) (.bool t9) (.int .i64 i9) (.string s9) (.slice a9 l9.length c9) (.slice b9 ks9.length d9)
                         exact ⟨rfl, Lib.hid (S4 w3.heap.size w3 (Nat.le_refl _) (BA.out.trans (hb4.mono BA.out.size)))⟩)
                case rest =>
                obtain ⟨rfl, HBC⟩ := hcut
                have hb := HBC.out
                obtain ⟨w4, hw4⟩ : ∃ w4, w4 = wc := ⟨_, rfl⟩
                rw [← hw4] at hb ⊢
                clear HBC hw4
                have HM4 := Lib.hid (HM3.out.below hb)
                clear hb HM3
                have ZR := HM4.out.res
                have z0 : w4.cell? ⟨w.heap.size, 0, none⟩ = some (.int .i64 0) := ZR.cell rfl
                have z1 : w4.cell? ⟨w.heap.size, 1, none⟩ = some (.bool false) := ZR.cell rfl
                have z2 : w4.cell? ⟨w.heap.size, 2, none⟩ = some (.int .i64 0) := ZR.cell rfl
                have z3 : w4.cell? ⟨w.heap.size, 3, none⟩ = some (.string ⟨#[]⟩) := ZR.cell rfl
                have z4 : w4.cell? ⟨w.heap.size, 4, none⟩ = some (.slice none 0 0) := ZR.cell rfl
                have z5 : w4.cell? ⟨w.heap.size, 5, none⟩ = some (.slice none 0 0) := ZR.cell rfl
                have zf := ZR.frozen
                go_wp2_with fail
                obtain ⟨W9, hW9⟩ : ∃ W9, W9 = ((((((w4.setCell ⟨w.heap.size, 0, none⟩ (.int .i64 0)).setCell ⟨w.heap.size, 1, none⟩ (.bool false)).setCell ⟨w.heap.size, 2, none⟩ (.int .i64 0)).setCell ⟨w.heap.size, 3, none⟩ (.string ⟨#[]⟩)).setCell ⟨w.heap.size, 4, none⟩ (.slice none 0 0)).setCell ⟨w.heap.size, 5, none⟩ (.slice none 0 0)) := ⟨_, rfl⟩
                rw [← hW9]
                obtain ⟨⟨cs', G4, h1, h2⟩, h3, h4, h5⟩ := six_set ZR 0 _ _ _ _ _ _ W9 hW9
                obtain ⟨q0, q1, q2, q3, q4, q5⟩ := h1 (by decide)
                have u0 : W9.cell? ⟨w.heap.size, 0, none⟩ = _ := G4.cell q0
                have u1 : W9.cell? ⟨w.heap.size, 1, none⟩ = _ := G4.cell q1
                have u2 : W9.cell? ⟨w.heap.size, 2, none⟩ = _ := G4.cell q2
                have u3 : W9.cell? ⟨w.heap.size, 3, none⟩ = _ := G4.cell q3
                have u4 : W9.cell? ⟨w.heap.size, 4, none⟩ = _ := G4.cell q4
                have u5 : W9.cell? ⟨w.heap.size, 5, none⟩ = _ := G4.cell q5
                have hB := h5 w.heap.size w (Nat.le_refl _) (HM4.out.bel)
                have h9 := HG.out
                rw [hEE.out, if_neg (by decide)] at h9
                rw [h9.1, h9.2]
                exact bodyPost_ret (v := .tuple #[.agg #[.int .i64 0, .bool false, .int .i64 0, .string ⟨#[]⟩, .slice none 0 0, .slice none 0 0], .int .i64 7]) (by simp [results, Tryz.f22, go_sem, u0, u1, u2, u3, u4, u5]) rfl ⟨_, rfl, isV_zero _ _, hB⟩
              · rw [decide_eq_false hmem] at GT
                have hE : errVs l = errM (n :: S.map (·.1)) (l.drop (j + 1)) := by rw [HD.out, hR0, if_neg (by decide), if_neg hmem]
                have HEE := Lib.hid hE
                clear hE hmem hR0
                have HY0 := Lib.hid y0
                clear x0 x1 x2 x3 x4 x5 y0 y1 y2 y3 y4 y5 y6
                go_wp2_with fail
                go_cut [8] (fun s8 wx => s8 = .bool false ∧ Hid (Below w3.heap.size w3 wx))
                case first =>
                  have hbd : Below w3.heap.size w3 w3.drew := (Below.refl _ _).drew
                  have hba : Below w3.heap.size w3 (w3.alloc (.cells #[.int .i64 0, .bool false, .int .i64 0, .string ⟨#[]⟩, .slice none 0 0, .slice none 0 0] 25)).drew := ((Below.refl _ _).alloc (Nat.le_refl _) _).drew
                  have CD := HBX.out.below hbd
                  have CA := HBX.out.below hba
                  have x0 : w3.drew.cell? ⟨B, 0, none⟩ = some (.int .i64 5) := CD.cell rfl
                  have x1 : w3.drew.cell? ⟨B, 1, none⟩ = some (.bool false) := CD.cell rfl
                  have x2 : w3.drew.cell? ⟨B, 2, none⟩ = some (.int .i64 0) := CD.cell rfl
                  have x3 : w3.drew.cell? ⟨B, 3, none⟩ = some (.string ⟨#[]⟩) := CD.cell rfl
                  have x4 : w3.drew.cell? ⟨B, 4, none⟩ = some (.slice av S.length c2) := CD.cell rfl
                  have x5 : w3.drew.cell? ⟨B, 5, none⟩ = some (.slice kv S.length kc) := CD.cell rfl
                  have p0 : (w3.alloc (.cells #[.int .i64 0, .bool false, .int .i64 0, .string ⟨#[]⟩, .slice none 0 0, .slice none 0 0] 25)).drew.cell? ⟨B, 0, none⟩ = some (.int .i64 5) := CA.cell rfl
                  have p1 : (w3.alloc (.cells #[.int .i64 0, .bool false, .int .i64 0, .string ⟨#[]⟩, .slice none 0 0, .slice none 0 0] 25)).drew.cell? ⟨B, 1, none⟩ = some (.bool false) := CA.cell rfl
                  have p2 : (w3.alloc (.cells #[.int .i64 0, .bool false, .int .i64 0, .string ⟨#[]⟩, .slice none 0 0, .slice none 0 0] 25)).drew.cell? ⟨B, 2, none⟩ = some (.int .i64 0) := CA.cell rfl
                  have p3 : (w3.alloc (.cells #[.int .i64 0, .bool false, .int .i64 0, .string ⟨#[]⟩, .slice none 0 0, .slice none 0 0] 25)).drew.cell? ⟨B, 3, none⟩ = some (.string ⟨#[]⟩) := CA.cell rfl
                  have p4 : (w3.alloc (.cells #[.int .i64 0, .bool false, .int .i64 0, .string ⟨#[]⟩, .slice none 0 0, .slice none 0 0] 25)).drew.cell? ⟨B, 4, none⟩ = some (.slice av S.length c2) := CA.cell rfl
                  have p5 : (w3.alloc (.cells #[.int .i64 0, .bool false, .int .i64 0, .string ⟨#[]⟩, .slice none 0 0, .slice none 0 0] 25)).drew.cell? ⟨B, 5, none⟩ = some (.slice kv S.length kc) := CA.cell rfl
                  have hbl := World.block_lt_of_cell? w3 _ HY0.out
                  have y0 := (hbd.cell (p := ⟨b, off + j * 7, none⟩) hbl).trans HY0.out
                  have y1 := (hba.cell (p := ⟨b, off + j * 7, none⟩) hbl).trans HY0.out
                  have BD := Lib.hid hbd
                  have BA := Lib.hid hba
                  have CZ0 := Lib.hid ((CellsAt.new w3 25 #[.int .i64 0, .bool false, .int .i64 0, .string ⟨#[]⟩, .slice none 0 0, .slice none 0 0]).drew)
                  clear hbd hba CD CA hbl
                  go_region_law (first
                    | (go_simp; go_at_call 26; go_fit (GT.out _ BD.out); rintro e w4 ⟨R, rfl, hR, hb4⟩; obtain ⟨k9, t9, i9, s9, l9, ks9, a9, c9, b9, d9, _, rfl, _⟩ := hR)
                    | (go_simp; go_at_call 26; go_fit (GT.out _ BA.out); rintro e w4 ⟨R, rfl, hR, hb4⟩; obtain ⟨k9, t9, i9, s9, l9, ks9, a9, c9, b9, d9, _, rfl, _⟩ := hR; have CZ := CZ0.out.below hb4; have z0 : w4.cell? ⟨w3.heap.size, 0, none⟩ = some (.int .i64 0) := CZ.cell rfl; have z1 : w4.cell? ⟨w3.heap.size, 1, none⟩ = some (.bool false) := CZ.cell rfl; have z2 : w4.cell? ⟨w3.heap.size, 2, none⟩ = some (.int .i64 0) := CZ.cell rfl; have z3 : w4.cell? ⟨w3.heap.size, 3, none⟩ = some (.string ⟨#[]⟩) := CZ.cell rfl; have z4 : w4.cell? ⟨w3.heap.size, 4, none⟩ = some (.slice none 0 0) := CZ.cell rfl; have z5 : w4.cell? ⟨w3.heap.size, 5, none⟩ = some (.slice none 0 0) := CZ.cell rfl; have zf := CZ.frozen))
                  all_goals
                    go_wp2_with fail
                    go_meet
                    first
                      | (have hw : Below w3.heap.size w3 (w4.alloc (.cells #[.int .i64 k9, .bool t9, .int .i64 i9, .string s9, .slice a9 l9.length c9, .slice b9 ks9.length d9] 25)) := (BD.out.trans (hb4.mono BD.out.size)).alloc (Nat.le_trans BD.out.size hb4.size) _
                         exact ⟨rfl, Lib.hid hw⟩)
                      | (obtain ⟨_, _, _, S4⟩ := six_box CZ (.int .i64 k9) (.bool t9) (.int .i64 i9) (.string s9) (.slice a9 l9.length c9) (.slice b9 ks9.length d9)
                         exact ⟨rfl, Lib.hid (S4 w3.heap.size w3 (Nat.le_refl _) (BA.out.trans (hb4.mono BA.out.size)))⟩)
                case rest =>
                obtain ⟨rfl, HBC⟩ := hcut
                have hb := HBC.out
                obtain ⟨w4, hw4⟩ : ∃ w4, w4 = wc := ⟨_, rfl⟩
                rw [← hw4] at hb ⊢
                clear HBC hw4
                have HM4 := Lib.hid (HM3.out.below hb)
                have HBX4 := Lib.hid (HBX.out.below hb)
                have HRW4 := Lib.hid (fun w2 (hf : From (B + 1) w4 w2) => HRW.out w2 ((From.of_below hb).trans hf))
                clear hb HM3 HBX HRW
                have hbd : Below w4.heap.size w4 w4.drew := (Below.refl _ _).drew
                have HMd := Lib.hid (HM4.out.below hbd)
                have HBXd := Lib.hid (HBX4.out.below hbd)
                have HRWd := Lib.hid (fun w2 (hf : From (B + 1) w4.drew w2) => HRW4.out w2 ((From.of_below hbd).trans hf))
                have hBw := HBX4.out.lt
                obtain ⟨T, hT⟩ : ∃ T, T = insM (n, Vl.mk k1 t1 i1 s1 l1 ks1) S := ⟨_, rfl⟩
                have WT := Lib.hid (by
                  have h := rWith_any m S (n, .mk k1 t1 i1 s1 l1 ks1) av kv c2 kc (.agg #[.string ⟨n.toArray⟩, .int .i64 k1, .bool t1, .int .i64 i1, .string s1, .slice av1 l1.length c1, .slice kv1 ks1.length kc1]) w w4.drew (HRWd.out w4.drew (From.refl _ _)).1 (HRWd.out w4.drew (From.refl _ _)).2 (fun x hx => by
                    obtain ⟨p, hp, rfl⟩ := List.mem_map.1 hx
                    exact HSN.out p hp) ⟨n, k1, t1, i1, s1, l1, ks1, av1, c1, kv1, kc1, rfl, rfl, HN.out, HI.out⟩ (by have := HSL.out; omega)
                  rw [List.length_map, List.length_map, ← hT] at h
                  exact h)
                have HT := Lib.hid hT
                clear hT hbd HM4 HBX4 HRW4
                go_wp2_with fail
                have BW := HMd.out.bel
                have y0 := (BW.cell (p := ⟨b, _, none⟩) HCE.out.1).trans HCE.out.2.1
                have y1 := (BW.cell (p := ⟨b, _, none⟩) HCE.out.1).trans HCE.out.2.2.1
                have y2 := (BW.cell (p := ⟨b, _, none⟩) HCE.out.1).trans HCE.out.2.2.2.1
                have y3 := (BW.cell (p := ⟨b, _, none⟩) HCE.out.1).trans HCE.out.2.2.2.2.1
                have y4 := (BW.cell (p := ⟨b, _, none⟩) HCE.out.1).trans HCE.out.2.2.2.2.2.1
                have y5 := (BW.cell (p := ⟨b, _, none⟩) HCE.out.1).trans HCE.out.2.2.2.2.2.2.1
                have y6 := (BW.cell (p := ⟨b, _, none⟩) HCE.out.1).trans HCE.out.2.2.2.2.2.2.2
                clear BW
                have x0 : w4.drew.cell? ⟨B, 0, none⟩ = some (.int .i64 5) := HBXd.out.cell rfl
                have x1 : w4.drew.cell? ⟨B, 1, none⟩ = some (.bool false) := HBXd.out.cell rfl
                have x2 : w4.drew.cell? ⟨B, 2, none⟩ = some (.int .i64 0) := HBXd.out.cell rfl
                have x3 : w4.drew.cell? ⟨B, 3, none⟩ = some (.string ⟨#[]⟩) := HBXd.out.cell rfl
                have x4 : w4.drew.cell? ⟨B, 4, none⟩ = some (.slice av S.length c2) := HBXd.out.cell rfl
                have x5 : w4.drew.cell? ⟨B, 5, none⟩ = some (.slice kv S.length kc) := HBXd.out.cell rfl
                go_region_law (first | (go_simp; go_at_call 50; go_fit WT.out; rintro e w5 ⟨a5, c5, k5, kc5, rfl, r1, r2, r3, r4, hr5, hb⟩; have HBX5 := HBXd.out.below hb; have v0 : w5.cell? ⟨B, 0, none⟩ = some (.int .i64 5) := HBX5.cell rfl; have v1 : w5.cell? ⟨B, 1, none⟩ = some (.bool false) := HBX5.cell rfl; have v2 : w5.cell? ⟨B, 2, none⟩ = some (.int .i64 0) := HBX5.cell rfl; have v3 : w5.cell? ⟨B, 3, none⟩ = some (.string ⟨#[]⟩) := HBX5.cell rfl; have v4 : w5.cell? ⟨B, 4, none⟩ = some (.slice av S.length c2) := HBX5.cell rfl; have v5 : w5.cell? ⟨B, 5, none⟩ = some (.slice kv S.length kc) := HBX5.cell rfl; have xf := HBX5.frozen))
                all_goals
                  have HM5 := HMd.out.below hb
                  have hBs : w4.heap.size ≤ w5.heap.size := hb.size
                  obtain ⟨S1, S2, S3, S4⟩ := six_box HBX5 (.int .i64 5) (.bool false) (.int .i64 0) (.string ⟨#[]⟩) (.slice a5 T.length c5) (.slice k5 T.length kc5)
                  obtain ⟨W9, hW9⟩ : ∃ W9, W9 = (((((w5.setCell ⟨B, 0, none⟩ (.int .i64 5)).setCell ⟨B, 1, none⟩ (.bool false)).setCell ⟨B, 2, none⟩ (.int .i64 0)).setCell ⟨B, 3, none⟩ (.string ⟨#[]⟩)).setCell ⟨B, 4, none⟩ (.slice a5 T.length c5)).setCell ⟨B, 5, none⟩ (.slice k5 T.length kc5) := ⟨_, rfl⟩
                  rw [← hW9] at S1 S2 S3 S4
                  have hBn : w.heap.size < B := by have := HBB.out; omega
                  have hres : CellsAt W9 w.heap.size 25 #[.int .i64 0, .bool false, .int .i64 0, .string ⟨#[]⟩, .slice none 0 0, .slice none 0 0] := HM5.res.of_block (by
                    rw [hW9]
                    simp only [set_other (show w.heap.size ≠ B by omega)])
                  have HM9 := Lib.hid (show MapS m w W9 B T from ⟨⟨a5, c5, k5, kc5, S1, fun w2 hf => hr5 w2 ((S2.trans hf).mono hBw), r1, r2, r3, r4⟩, hres, S4 w.heap.size w (by omega) HM5.bel⟩)
                  have HS9 := Lib.hid (show T = sortM (l.take (j + 1)) by
                    rw [HT.out, HS.out, List.take_add_one, HJ0.out]
                    exact (sortM_snoc _ _).symm)
                  have HE9 := Lib.hid (show errVs l = errM (T.map (·.1)) (l.drop (j + 1)) by
                    rw [HEE.out]
                    refine errM_mem _ _ _ (fun x => ?_)
                    have hp := (ins_perm (n, Vl.mk k1 t1 i1 s1 l1 ks1) S)
                    rw [HT.out]
                    have h9 := (hp.map (·.1)).mem_iff (a := x)
                    rw [List.map_cons] at h9
                    exact h9.symm)
                  clear S1 S2 S3 S4 hres HM5 HBX5 r1 r2 r3 r4 hr5 hb
                  go_wp2_with fail
                  rw [← hW9]
                  exact ⟨⟨j + 1, T, by omega, by go_num, HS9, HM9, HE9⟩, by simp [RowKit.intOf]; omega⟩
      · obtain rfl : j = l.length := by omega
        have hjI : ¬ (l.length : Int) < (l.length : Int) := by omega
        have hE : errVs l = 0 := by rw [HER.out, List.drop_length]; rfl
        have hSm : S = sortM l := by rw [HS.out, List.take_length]
        obtain ⟨av, c2, kv, kc, hbx, hrw, bq1, bq2, bq3, bq4⟩ := HM.out.box
        have x0 : wr.cell? ⟨B, 0, none⟩ = some (.int .i64 5) := hbx.cell rfl
        have x1 : wr.cell? ⟨B, 1, none⟩ = some (.bool false) := hbx.cell rfl
        have x2 : wr.cell? ⟨B, 2, none⟩ = some (.int .i64 0) := hbx.cell rfl
        have x3 : wr.cell? ⟨B, 3, none⟩ = some (.string ⟨#[]⟩) := hbx.cell rfl
        have x4 : wr.cell? ⟨B, 4, none⟩ = some (.slice av S.length c2) := hbx.cell rfl
        have x5 : wr.cell? ⟨B, 5, none⟩ = some (.slice kv S.length kc) := hbx.cell rfl
        have HEE := Lib.hid (And.intro hE hSm)
        have hlS : S.length ≤ 1024 := by have := HSL.out; omega
        have hBn : w.heap.size < B := by have := HBB.out; omega
        clear hE hSm hlt
        have ZR := HM.out.res
        have z0 : wr.cell? ⟨w.heap.size, 0, none⟩ = some (.int .i64 0) := ZR.cell rfl
        have z1 : wr.cell? ⟨w.heap.size, 1, none⟩ = some (.bool false) := ZR.cell rfl
        have z2 : wr.cell? ⟨w.heap.size, 2, none⟩ = some (.int .i64 0) := ZR.cell rfl
        have z3 : wr.cell? ⟨w.heap.size, 3, none⟩ = some (.string ⟨#[]⟩) := ZR.cell rfl
        have z4 : wr.cell? ⟨w.heap.size, 4, none⟩ = some (.slice none 0 0) := ZR.cell rfl
        have z5 : wr.cell? ⟨w.heap.size, 5, none⟩ = some (.slice none 0 0) := ZR.cell rfl
        have zf := ZR.frozen
        go_wp2_with fail
        obtain ⟨W9, hW9⟩ : ∃ W9, W9 = ((((((wr.setCell ⟨w.heap.size, 0, none⟩ (.int .i64 5)).setCell ⟨w.heap.size, 1, none⟩ (.bool false)).setCell ⟨w.heap.size, 2, none⟩ (.int .i64 0)).setCell ⟨w.heap.size, 3, none⟩ (.string ⟨#[]⟩)).setCell ⟨w.heap.size, 4, none⟩ (.slice av S.length c2)).setCell ⟨w.heap.size, 5, none⟩ (.slice kv S.length kc)) := ⟨_, rfl⟩
        rw [← hW9]
        obtain ⟨⟨cs', G4, h1, h2⟩, h3, h4, h5⟩ := six_set ZR 0 _ _ _ _ _ _ W9 hW9
        obtain ⟨q0, q1, q2, q3, q4, q5⟩ := h1 (by decide)
        have u0 : W9.cell? ⟨w.heap.size, 0, none⟩ = _ := G4.cell q0
        have u1 : W9.cell? ⟨w.heap.size, 1, none⟩ = _ := G4.cell q1
        have u2 : W9.cell? ⟨w.heap.size, 2, none⟩ = _ := G4.cell q2
        have u3 : W9.cell? ⟨w.heap.size, 3, none⟩ = _ := G4.cell q3
        have u4 : W9.cell? ⟨w.heap.size, 4, none⟩ = _ := G4.cell q4
        have u5 : W9.cell? ⟨w.heap.size, 5, none⟩ = _ := G4.cell q5
        have hB := h5 w.heap.size w (Nat.le_refl _) (HM.out.bel)
        have h9 := HG.out
        rw [HEE.out.1, if_pos rfl] at h9
        rw [h9.1, h9.2]
        have hF : From (B + 1) wr W9 := ⟨by omega, fun b hb _ => h3 b (by omega)⟩
        have hIV := rows_isV (hrw W9 hF) hB bq1 bq2 bq3 bq4 hlS HSN.out
        rw [HEE.out.2] at hIV
        exact bodyPost_ret (v := .tuple #[.agg #[.int .i64 5, .bool false, .int .i64 0, .string ⟨#[]⟩, .slice av S.length c2, .slice kv S.length kc], .int .i64 0]) (by simp [results, Tryz.f22, go_sem, u0, u1, u2, u3, u4, u5]) rfl ⟨_, rfl, by rw [HEE.out.2]; exact hIV, hB⟩
end Go.Proofs.YtabopneehhnhfaaGreatDoor
