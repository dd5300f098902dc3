/- Contracts of functions of the program, and what they are made of (parser; Pk29). -/
import Derived.Test.YtjehhldboopocaaGreatDoorPk28
import Derived.Deep.AppendLies
import Derived.Deep.RegionLaw
namespace Go.Proofs.YtjehhldboopocaaGreatDoor.Lx
open Go.RowKit Go.Lib
set_option linter.unusedVariables false
/-- The boxes of entries: the keys so far, the reader's address. -/
structure KeyS (R n K B : Nat) (G : Value) (ks : List (List UInt8)) (kv : Value) (w : World) : Prop where
  kc : CellsAt w K 24 #[kv]
  bc : CellsAt w B 81 #[.pointer (some ⟨R, 0, none⟩)]
  row : w.ownsRow n 9 1 kv ks.length (ks.map strV)
  rn : R < n
  kn : n ≤ K
  bn : n ≤ B
  kb : K ≠ B
  kg : some K ≠ G.ownBlock
  bg : some B ≠ G.ownBlock
  kr : kv.ownBlock ≠ some K
  br : kv.ownBlock ≠ some B
  gr : ∀ g, kv.ownBlock = some g → some g ≠ G.ownBlock
  len : ∀ k, k ∈ ks → k.length ≤ 4096
/-- Which blocks the boxes and the keys lie in. -/
def ZK (Z : Nat → Prop) (K : Nat) (kv : Value) (k : Nat) : Prop := Z k ∨ k = K ∨ kv.ownBlock = some k
/-- As Fm, for blocks below n. -/
structure FmN (n R : Nat) (G G' : Value) (w w' : World) : Prop where
  os : w'.os = w.os
  tape : w'.tape = w.tape
  output : w'.output = w.output
  size : w.heap.size ≤ w'.heap.size
  block : ∀ k, k < n → k ≠ R → some k ≠ G.ownBlock → w'.heap[k]? = w.heap[k]?
  lies : G'.ownBlock = G.ownBlock ∨ ∃ k, G'.ownBlock = some k ∧ n ≤ k
theorem FmN.refl (n R : Nat) (G : Value) (w : World) : FmN n R G G w w := ⟨rfl, rfl, rfl, Nat.le_refl _, fun _ _ _ _ => rfl, .inl rfl⟩
theorem FmN.trans {n R : Nat} {A B C : Value} {u v w : World} (h : FmN n R A B u v) (k : FmN n R B C v w) : FmN n R A C u w := by
  refine ⟨k.os.trans h.os, k.tape.trans h.tape, k.output.trans h.output, Nat.le_trans h.size k.size, ?_, ?_⟩
  · intro i hi hR hne
    refine (k.block i hi hR ?_).trans (h.block i hi hR hne)
    rcases h.lies with e | ⟨j, e, hj⟩
    · rw [e]; exact hne
    · rw [e]
      intro e2
      injection e2 with e2
      omega
  · rcases k.lies with e | ⟨j, e, hj⟩
    · rw [e]; exact h.lies
    · exact .inr ⟨j, e, hj⟩
theorem Fm.toN {n R : Nat} {G G' : Value} {w w' : World} (h : Fm R G G' w w') (hn : n ≤ w.heap.size) : FmN n R G G' w w' :=
  ⟨h.os, h.tape, h.output, h.size, fun k h1 h2 h3 => h.block k (by omega) h2 h3, h.lies.imp id fun ⟨k, e, hk⟩ => ⟨k, e, by omega⟩⟩
theorem FmN.toFm {R : Nat} {G G' : Value} {w w' : World} (h : FmN w.heap.size R G G' w w') : Fm R G G' w w' := ⟨h.os, h.tape, h.output, h.size, h.block, h.lies⟩
section
variable {w0 : World} {ta : Option Addr} {tc : Nat} {toks : List Tm} {Z : Nat → Prop} {R i n K B : Nat} {G : Value} {L : List Xp} {w : World} {ks : List (List UInt8)} {kv : Value}
/-- The boxes stay where their blocks stay. -/
theorem KeyS.stay {G' : Value} {w' : World} (h : KeyS R n K B G ks kv w) (hf : Fm R G G' w w') : KeyS R n K B G' ks kv w' := by
  have hK := h.kc.lt
  have hB := h.bc.lt
  have hkn := h.kn
  have hbn := h.bn
  have hrn := h.rn
  have hne : ∀ k, k < w.heap.size → some k ≠ G.ownBlock → some k ≠ G'.ownBlock := fun k hk hG e => by
    rcases hf.lies with e2 | ⟨j, e2, hj⟩
    · exact hG (by rw [← e2]; exact e)
    · rw [e2] at e
      injection e with e
      omega
  refine ⟨h.kc.of_block (hf.block K hK (by omega) h.kg), h.bc.of_block (hf.block B hB (by omega) h.bg), own_stays h.row fun g hg => ?_, h.rn, h.kn, h.bn, h.kb, hne K hK h.kg, hne B hB h.bg, h.kr, h.br, fun g hg => ?_, h.len⟩
  · obtain ⟨h1, h2⟩ := World.ownsRow.lt h.row g hg
    exact hf.block g h2 (by omega) (h.gr g hg)
  · exact hne g (World.ownsRow.lt h.row g hg).2 (h.gr g hg)
/-- What an entry's reading leaves. -/
def DoneE (w0 : World) (ta : Option Addr) (tc : Nat) (toks : List Tm) (Z : Nat → Prop) (R i n K B : Nat) (G : Value) (L : List Xp) (ks : List (List UInt8)) (w : World) (s : List UInt8) : PR Vl → Ending → World → Prop
  | .out, _, _ => True
  | .err a er, e, w' => e = PanE er ∧ (∃ G', FmN n R G G' w w') ∧ Below w0.heap.size w0 w' ∧ w'.cell? ⟨R, 1, none⟩ = some (.int .i64 a)
  | .ok x a, e, w' => e = .returned (.tuple #[]) ∧ i < a ∧ ∃ G' kv', RS w0 ta tc toks (ZK Z K kv') R a G' (L ++ [x]) w' ∧ FmN n R G G' w w' ∧ KeyS R n K B G' (ks ++ [s]) kv' w'
set_option maxHeartbeats 4000000 in
set_option maxRecDepth 100000 in
theorem entry_nokey (h : RS w0 ta tc toks (ZK Z K kv) R i G L w) (hk : KeyS R n K B G ks kv w) (h1 : (nxt toks i).1 ≠ 1) (h3 : (nxt toks i).1 ≠ 3) (s : List UInt8) :
    Calls Tryz.prog 245 #[.pointer (some ⟨K, 0, none⟩), .pointer (some ⟨B, 0, none⟩)] w (DoneE w0 ta tc toks Z R i n K B G L ks w s (.err i (miss (tsOf toks) i))) := by
  obtain ⟨er, her⟩ : ∃ er, er = miss (tsOf toks) i := ⟨_, rfl⟩
  have N := key_no (h.on (Below.refl _ w).drew) h1 h3
  rw [← her] at N ⊢
  have N := Lib.hid N
  obtain ⟨na, hc⟩ := h.box
  have F := Lib.hid (fun (w1 : World) (hb : Below w.drew.heap.size w.drew w1) => show DoneE w0 ta tc toks Z R i n K B G L ks w s (.err i er) (PanE er) w1 from by
    have hb2 : Below w.heap.size w w1 := ((Below.refl _ w).drew).trans hb
    have hz := h.below.size
    refine ⟨rfl, ⟨G, ((Fm.of_below hb2)).toN ?_⟩, h.below.trans (hb2.mono hz), (hc.below hb2).cell rfl⟩
    have := hk.kc.lt
    have := hk.kn
    omega)
  have c0 := hk.kc.cell (k := 0) (u := kv) rfl
  have c1 := hk.bc.cell (k := 0) (u := .pointer (some ⟨R, 0, none⟩)) rfl
  obtain ⟨Q, hQ⟩ : ∃ Q, Q = DoneE w0 ta tc toks Z R i n K B G L ks w s (.err i er) := ⟨_, rfl⟩
  rw [← hQ] at F ⊢
  clear h hk h1 h3 her hc hQ
  go_enter Tryz.func245, Tryz.ntmps245
  go_wp2_with fail
  refine wp_region_any (by kernel_rfl) ?_
  change wpAny _ _ _ _ _ _ _ (World.drew _)
  refine wpAny_ready (rs := [0, 1]) (by kernel_rfl) (by simp) ?_
  refine AllReady.cons rfl (fun K hK => ?_) (AllReady.cons rfl (fun K hK => ?_) AllReady.nil)
  · go_simp
    refine hK _ _ ?_
    clear hK K
    refine wpAny_ready (rs := [1]) (by kernel_rfl) (by simp) ?_
    refine AllReady.cons rfl (fun K hK => ?_) AllReady.nil
    go_simp
    refine hK _ _ ?_
    clear hK K
    refine wpAny_ready (rs := [2]) (by kernel_rfl) (by simp) ?_
    refine AllReady.cons rfl (fun K hK => ?_) AllReady.nil
    go_simp
    go_fit N.out
    rintro e w1 ⟨rfl, hb⟩
    exact ⟨rfl, F.out w1 hb⟩
  · go_simp
    refine hK _ _ ?_
    clear hK K
    refine wpAny_ready (rs := [0, 2]) (by kernel_rfl) (by simp) ?_
    refine AllReady.cons rfl (fun K hK => ?_) (AllReady.cons rfl (fun K hK => ?_) AllReady.nil)
    · go_simp
      refine hK _ _ ?_
      clear hK K
      refine wpAny_ready (rs := [2]) (by kernel_rfl) (by simp) ?_
      refine AllReady.cons rfl (fun K hK => ?_) AllReady.nil
      go_simp
      go_fit N.out
      rintro e w1 ⟨rfl, hb⟩
      exact ⟨rfl, F.out w1 hb⟩
    · go_simp
      go_fit N.out
      rintro e w1 ⟨rfl, hb⟩
      exact ⟨rfl, F.out w1 hb⟩
end
end Go.Proofs.YtjehhldboopocaaGreatDoor.Lx
namespace Go.Proofs.YtjehhldboopocaaGreatDoor.Lx
open Go.RowKit Go.Lib
set_option linter.unusedVariables false
section
variable {w0 : World} {ta : Option Addr} {tc : Nat} {toks : List Tm} {Z : Nat → Prop} {R i n K B : Nat} {G : Value} {L : List Xp} {ks : List (List UInt8)} {kv : Value}
theorem keys_push {j : Nat} {w1 w3 W : World} {g cap : Nat} {s : List UInt8} {sx : ByteArray} (hsx : sx = ⟨s.toArray⟩) (h1 : RS w0 ta tc toks (ZK Z K kv) R j G L w1) (hk : KeyS R n K B G ks kv w1) (hs : s.length ≤ 4096) (hZ : ∀ k, Z k → k < n)
    (hg3 : (w1.alloc (.cells #[.string sx] 9)).grownBy w3 kv.ownBlock) (ho3 : w3.ownsRow n 9 1 (.slice (some ⟨g, 0, none⟩) (ks.length + 1) cap) (ks.length + 1) (ks.map strV ++ [.string sx]))
    (hat : kv.ownBlock = some g ∨ g = w1.heap.size + 1) (hW : W = w3.setCell ⟨K, 0, none⟩ (.slice (some ⟨g, 0, none⟩) (ks.length + 1) cap)) :
    RS w0 ta tc toks (ZK Z K (.slice (some ⟨g, 0, none⟩) (ks.length + 1) cap)) R j G L W ∧ KeyS R n K B G (ks ++ [s]) (.slice (some ⟨g, 0, none⟩) (ks.length + 1) cap) W ∧ FmN n R G G w1 W := by
  subst hsx
  have hsz := hg3.size
  simp only [World.size_alloc] at hsz
  have hK := hk.kc.lt
  have hB := hk.bc.lt
  have hkn := hk.kn
  have hbn := hk.bn
  have hrn := hk.rn
  have hRlt := h1.Rlt
  have hR0 := h1.hR
  have hz0 := h1.below.size
  have h3 : ∀ k, k < w1.heap.size → kv.ownBlock ≠ some k → w3.heap[k]? = w1.heap[k]? := fun k h1 h2 =>
    (hg3.block k (by simp; omega) (fun e => h2 e.symm)).trans (Below.heap_alloc _ _ k h1)
  have hw : ∀ k, k < w1.heap.size → k ≠ K → kv.ownBlock ≠ some k → W.heap[k]? = w1.heap[k]? := fun k h1 h2 h4 => by
    rw [hW, Below.heap_setCell _ _ _ k h2]
    exact h3 k h1 h4
  have hkvn : ∀ k, kv.ownBlock = some k → n ≤ k ∧ k < w1.heap.size := fun k e => World.ownsRow.lt hk.row k e
  have hWz : W.heap.size = w3.heap.size := by rw [hW]; simp
  have hWs : W.os = w1.os ∧ W.tape = w1.tape ∧ W.output = w1.output := by rw [hW]; exact ⟨hg3.os, hg3.tape, hg3.output⟩
  have hgne : ∀ k, k < w1.heap.size → kv.ownBlock ≠ some k → g ≠ k := fun k h1 h2 e => by
    subst e
    rcases hat with e | e
    · exact h2 e
    · omega
  refine ⟨h1.stay ⟨hWs.1, hWs.2.1, hWs.2.2, by omega, fun k hk' => hw k (by omega) (by omega) (fun e => by have := (hkvn k e).1; omega)⟩ (hw R hRlt (by omega) (fun e => by have := (hkvn R e).1; omega)) ?_ ?_, ⟨?_, ?_, ?_, hrn, hkn, hbn, hk.kb, hk.kg, hk.bg, ?_, ?_, ?_, ?_⟩, ⟨hWs.1, hWs.2.1, hWs.2.2, by omega, ?_, .inl rfl⟩⟩
  · intro g0 hg0
    refine hw g0 (h1.glt g0 hg0).2 ?_ ?_
    · intro e
      exact hk.kg (by rw [hg0, e])
    · intro e
      exact hk.gr g0 e hg0.symm
  · intro k hk1 hk2
    obtain ⟨a1, a2, a3⟩ := hk2
    have b1 : k ≠ K := fun e => a3 (.inr (.inl e))
    have b2 : kv.ownBlock ≠ some k := fun e => a3 (.inr (.inr e))
    refine ⟨hw k hk1 b1 b2, ?_⟩
    rintro (e | e | e)
    · exact a3 (.inl e)
    · exact b1 e
    · simp only [Value.ownBlock, Option.some.injEq] at e
      exact hgne k hk1 b2 e
  · have hc : CellsAt w3 K 24 #[kv] := hk.kc.of_block (h3 K hK hk.kr)
    rw [hW]
    exact hc.set 0 _
  · exact hk.bc.of_block (hw B hB (Ne.symm hk.kb) hk.br)
  · rw [List.length_append, List.length_singleton, List.map_append, List.map_cons, List.map_nil, strV_eq, hW]
    exact ownsRow_setCell_other ho3 (by simp only [Value.ownBlock]; intro e; injection e with e; exact hgne K hK hk.kr e) _
  · simp only [Value.ownBlock]
    intro e
    injection e with e
    exact hgne K hK hk.kr e
  · simp only [Value.ownBlock]
    intro e
    injection e with e
    exact hgne B hB hk.br e
  · intro q hq e
    simp only [Value.ownBlock, Option.some.injEq] at hq
    subst hq
    rcases hat with e2 | e2
    · exact hk.gr g e2 e
    · have := (h1.glt g e.symm).2
      omega
  · intro k hk'
    rcases List.mem_append.1 hk' with h | h
    · exact hk.len k h
    · simp only [List.mem_singleton] at h
      rw [h]
      exact hs
  · intro k hk1 hk2 hk3
    have hk4 : k < w1.heap.size := by omega
    exact hw k hk4 (by omega) (fun e => by have := (hkvn k e).1; omega)
set_option maxHeartbeats 8000000 in
set_option maxRecDepth 100000 in
theorem entry_key {w : World} (hE : EnvR w0 ta toks) (f : Nat) (hC : PartOk w0 ta tc toks R 51 #[.pointer (some ⟨R, 0, none⟩)] f .cond) (h : RS w0 ta tc toks (ZK Z K kv) R i G L w) (hk : KeyS R n K B G ks kv w) (hZ : ∀ k, Z k → k < n)
    (hkl : ks.length ≤ 1073741824) {k : Int} {s : List UInt8} (hx : nxt toks i = (k, s)) (hk13 : k = 1 ∨ k = 3) (hne : (if opTk (tsOf toks) (i + 1) [58] = true then pP toks f .cond (i + 2) else .err (i + 1) (miss (tsOf toks) (i + 1))) ≠ .out) :
    Calls Tryz.prog 245 #[.pointer (some ⟨K, 0, none⟩), .pointer (some ⟨B, 0, none⟩)] w
      (DoneE w0 ta tc toks Z R i n K B G L ks w s (if opTk (tsOf toks) (i + 1) [58] = true then pP toks f .cond (i + 2) else .err (i + 1) (miss (tsOf toks) (i + 1)))) := by
  obtain ⟨r, hr⟩ : ∃ r, r = (if opTk (tsOf toks) (i + 1) [58] = true then pP toks f .cond (i + 2) else .err (i + 1) (miss (tsOf toks) (i + 1))) := ⟨_, rfl⟩
  rw [← hr] at hne ⊢
  obtain ⟨Q, hQ⟩ : ∃ Q, Q = DoneE w0 ta tc toks Z R i n K B G L ks w s r := ⟨_, rfl⟩
  rw [← hQ]
  have hsl := nxt_len (toks := toks) (i := i)
  rw [hx] at hsl
  dsimp only at hsl
  have KY := Lib.hid (fun (W : World) (hb : Below w.heap.size w W) => key_yes hE (h.on hb) hx hk13)
  obtain ⟨sx, hsx⟩ : ∃ sx : ByteArray, sx = ⟨s.toArray⟩ := ⟨_, rfl⟩
  rw [← hsx] at KY
  obtain ⟨i0, hi, hq0, hq1, hq2⟩ := info_parts infoS
  have hz := hk.kc.lt
  have hnz := hk.kn
  have HQ := Lib.hid hQ
  have HN := Lib.hid hne
  have HR := Lib.hid hr
  have HE := Lib.hid hE
  have HC := Lib.hid hC
  have HH := Lib.hid h
  have HK := Lib.hid hk
  have HZ := Lib.hid hZ
  have HSX := Lib.hid hsx
  have c0 := hk.kc.cell (k := 0) (u := kv) rfl
  have c1 := hk.bc.cell (k := 0) (u := .pointer (some ⟨R, 0, none⟩)) rfl
  have hm1 : ks.length + 1 ≤ maxLen := by unfold maxLen; omega
  have hm2 : (ks.length + 1) * 16 ≤ 140737488355328 := by omega
  have KS := Lib.hid (fun (w1 : World) (hf : Fm R G G w.drew w1) => hk.stay ((Fm.of_below (Below.refl _ w).drew).trans hf))
  obtain ⟨kl, hkl2⟩ : ∃ kl, kl = ks.length := ⟨_, rfl⟩
  have HKL := Lib.hid hkl2
  clear h hk hx hk13 hne hr hQ hE hC hsx hZ hkl2
  go_enter Tryz.func245, Tryz.ntmps245
  go_wp2_with fail
  go_region_law (first
    | (go_simp; go_at_call 246; go_fit (KY.out _ (Below.refl _ w).drew); rintro e w1 ⟨rfl, h1, f1⟩; have H1 := Lib.hid h1; have F1 := Lib.hid f1; have K1 := Lib.hid (KS.out w1 f1); have d0 := K1.out.kc.cell (k := 0) (u := kv) rfl; have d0b := (K1.out.kc.alloc (.cells #[.string sx] 9)).cell (k := 0) (u := kv) rfl; have HO := Lib.hid (K1.out.row.alloc (.cells #[.string sx] 9)); have hzs : n ≤ (w1.alloc (.cells #[.string sx] 9)).heap.size := (by have := K1.out.kc.lt; have := K1.out.kn; simp; omega); clear h1 f1)
    | (refine step_append_lies _ rfl _ _ 24 rfl n 9 i0 _ 1 16 Tryz.underlying24 hi hq0 hq1 hq2 rfl (by decide) kv ks.length (ks.map strV) rfl HO.out ⟨w1.heap.size, 0, none⟩ 1 1 [.string sx] rfl rfl (World.news_of_block (heap_alloc_new _ _)) (by intro u hu; simp at hu; subst hu; rfl) (by decide) hm1 hm2 hzs _ rfl ?_; intro g3 cap3 w3 ho3 hg3 hat3 hlt3; have HO3 := Lib.hid ho3; have HG3 := Lib.hid hg3; have HA3 := Lib.hid hat3; have CK := K1.out.kc.of_block ((hg3.block K (by have := K1.out.kc.lt; simp; omega) (fun e => K1.out.kr e.symm)).trans (Below.heap_alloc _ _ K K1.out.kc.lt)); have d3 := CK.cell (k := 0) (u := kv) rfl; have f3 := CK.frozen 0; clear ho3 hg3 hat3 CK))
  all_goals
    obtain ⟨P1, P2, P3⟩ := keys_push (W := w3.setCell ⟨K, 0, none⟩ (.slice (some ⟨g3, 0, none⟩) (ks.length + 1) cap3)) HSX.out H1.out K1.out hsl HZ.out HG3.out HO3.out (by simpa using HA3.out) rfl
    have FN := ((((Fm.of_below (Below.refl _ w).drew).trans F1.out).toN (n := n) (by omega)).trans P3)
    obtain ⟨W, hW⟩ : ∃ W, W = w3.setCell ⟨K, 0, none⟩ (.slice (some ⟨g3, 0, none⟩) (ks.length + 1) cap3) := ⟨_, rfl⟩
    rw [← hW] at P1 P2 FN ⊢
    obtain ⟨v3, hv3⟩ : ∃ v3, v3 = Value.slice (some ⟨g3, 0, none⟩) (ks.length + 1) cap3 := ⟨_, rfl⟩
    rw [← hv3] at P1 P2
    have e1 := P2.bc.cell (k := 0) (u := .pointer (some ⟨R, 0, none⟩)) rfl
    have HP1 := Lib.hid P1
    have HP2 := Lib.hid P2
    have HFN := Lib.hid FN
    have HZ2 := Lib.hid (show ∀ k, ZK Z K v3 k → k < W.heap.size from by
      have h1 := P2.kc.lt
      have h2 := P2.kn
      rintro k (e | e | e)
      · have := HZ.out k e
        omega
      · omega
      · exact (World.ownsRow.lt P2.row k e).2)
    clear P1 P2 P3 FN HO3 HG3 HA3 HO hW hv3 d0 d0b d3 f3
    by_cases hq : nxt toks (i + 1) = (4, [58])
    · have N := Lib.hid (need_yes HE.out HP1.out hq)
      have q := HR.out
      rw [if_pos ((op_nxt _ _ _).2 hq)] at q
      have HR2 := Lib.hid q
      clear q hq HR
      go_wp2_with fail
      go_fit N.out
      rintro e w5 ⟨rfl, h5, f5⟩
      have K5 := HP2.out.stay f5
      have e2 := K5.bc.cell (k := 0) (u := .pointer (some ⟨R, 0, none⟩)) rfl
      have hnW : n ≤ W.heap.size := by have := HP2.out.kc.lt; have := HP2.out.kn; omega
      have CC := HC.out (ZK Z K v3) (i + 2) G L w5 (lo_Z HZ2.out f5.size) h5 (by rw [← HR2.out]; exact HN.out)
      rw [← HR2.out] at CC
      have CC := Lib.hid CC
      have HK5 := Lib.hid K5
      have F5 := Lib.hid (HFN.out.trans (f5.toN hnW))
      have hn5 : n ≤ w5.heap.size := Nat.le_trans hnW f5.size
      clear h5 f5 K5 N
      go_wp2_with fail
      go_fit CC.out
      clear CC HR2
      cases r with
      | out => exact absurd rfl HN.out
      | err a er =>
        rintro e w6 ⟨rfl, ⟨G6, f6⟩, hb6, hc6⟩
        have F6 := Lib.hid (F5.out.trans (f6.toN hn5))
        have HB6 := Lib.hid hb6
        have HC6 := Lib.hid hc6
        clear f6 hb6 hc6
        go_wp2_with fail
        rw [HQ.out]
        exact ⟨rfl, rfl, ⟨G6, F6.out⟩, HB6.out, HC6.out⟩
      | ok x a =>
        rintro e w6 ⟨rfl, hlt6, G6, h6, f6⟩
        have F6 := Lib.hid (F5.out.trans (f6.toN hn5))
        have K6 := Lib.hid (HK5.out.stay f6)
        have H6 := Lib.hid h6
        clear f6 h6
        go_wp2_with fail
        go_end0
        rw [HQ.out]
        exact ⟨rfl, by omega, G6, v3, H6.out, F6.out, K6.out⟩
    · have N := Lib.hid (need_no HP1.out hq (by decide))
      have q := HR.out
      rw [op_nxt_no hq, if_neg (by decide)] at q
      obtain ⟨er, her⟩ : ∃ er, er = miss (tsOf toks) (i + 1) := ⟨_, rfl⟩
      rw [← her] at N q
      have HR2 := Lib.hid q
      have hnW : n ≤ W.heap.size := by have := HP2.out.kc.lt; have := HP2.out.kn; omega
      clear q hq HR her
      go_wp2_with fail
      go_fit N.out
      rintro e w5 ⟨rfl, hb5⟩
      obtain ⟨na, hcb⟩ := HP1.out.box
      have HC6 := Lib.hid ((hcb.below hb5).cell (k := 1) (u := .int .i64 ((i + 1 : Nat) : Int)) rfl)
      have HB6 := Lib.hid (HP1.out.below.trans (hb5.mono HP1.out.below.size))
      have F6 := Lib.hid (HFN.out.trans ((Fm.of_below hb5).toN hnW))
      clear hb5 hcb
      go_wp2_with fail
      rw [HQ.out, HR2.out]
      exact ⟨rfl, rfl, ⟨G, F6.out⟩, HB6.out, HC6.out⟩
end
end Go.Proofs.YtjehhldboopocaaGreatDoor.Lx
namespace Go.Proofs.YtjehhldboopocaaGreatDoor.Lx
open Go.RowKit Go.Lib
set_option linter.unusedVariables false
section
variable {w0 : World} {ta : Option Addr} {tc : Nat} {toks : List Tm} {R n K B : Nat}
/-- What an entry is read as. -/
def entP (toks : List Tm) (f i : Nat) : PR Vl := if opTk (tsOf toks) (i + 1) [58] = true then pP toks f .cond (i + 2) else .err (i + 1) (miss (tsOf toks) (i + 1))
theorem lstE_end (f : Nat) (cl : List UInt8) (acc : List Xp) (keys : List (List UInt8)) (i : Nat) (h : opTk (tsOf toks) i cl = true) : pP toks (f + 1) (.lst cl true true acc keys) i = .ok (.mk 0 zeroV [] acc keys) (i + 1) := by
  show (if true = true ∧ opTk (tsOf toks) i cl = true then _ else _) = _
  rw [if_pos ⟨rfl, h⟩]
  rfl
theorem lstE_key (f : Nat) (cl : List UInt8) (first : Bool) (acc : List Xp) (keys : List (List UInt8)) (i : Nat) (h : ¬ (first = true ∧ opTk (tsOf toks) i cl = true)) {k : Int} {s : List UInt8} (hx : nxt toks i = (k, s)) (hk : k = 1 ∨ k = 3) :
    pP toks (f + 1) (.lst cl true first acc keys) i = (entP toks f i).bind fun x a => hdI toks f cl true (acc ++ [x]) (keys ++ [s]) a := by
  have h0 : k ≠ 0 := by omega
  have hs := nxt_name hx h0
  have hkt : keyT (k, s) = true := by
    unfold keyT
    rcases hk with rfl | rfl
    · have h2 : nameB s = true := hs
      simp [h2]
    · have h2 : s.length ≤ 4096 := inS_len hs
      simp [h2]
  show (if first = true ∧ opTk (tsOf toks) i cl = true then _ else _) = _
  rw [if_neg h]
  show (match (tsOf toks)[i]? with | some t => if keyT t = true then (if opTk (tsOf toks) (i + 1) [58] = true then ((pP toks f .cond (i + 2)).bind fun x a => hdI toks f cl true (acc ++ [x]) (keys ++ [t.2]) a) else .err (i + 1) (miss (tsOf toks) (i + 1))) else .err i (miss (tsOf toks) i) | none => .err i (miss (tsOf toks) i)) = _
  rw [get_nxt hx h0]
  dsimp only
  rw [if_pos hkt]
  unfold entP
  split
  · rfl
  · rfl
theorem lstE_no (f : Nat) (cl : List UInt8) (first : Bool) (acc : List Xp) (keys : List (List UInt8)) (i : Nat) (h : ¬ (first = true ∧ opTk (tsOf toks) i cl = true)) (h1 : (nxt toks i).1 ≠ 1) (h3 : (nxt toks i).1 ≠ 3) :
    pP toks (f + 1) (.lst cl true first acc keys) i = .err i (miss (tsOf toks) i) := by
  show (if first = true ∧ opTk (tsOf toks) i cl = true then _ else _) = _
  rw [if_neg h]
  show (match (tsOf toks)[i]? with | some t => if keyT t = true then (if opTk (tsOf toks) (i + 1) [58] = true then ((pP toks f .cond (i + 2)).bind fun x a => hdI toks f cl true (acc ++ [x]) (keys ++ [t.2]) a) else .err (i + 1) (miss (tsOf toks) (i + 1))) else .err i (miss (tsOf toks) i) | none => .err i (miss (tsOf toks) i)) = _
  cases e : (tsOf toks)[i]? with
  | none => rfl
  | some t =>
    obtain ⟨k, s⟩ := t
    have hn : nxt toks i = (k, s) := by unfold nxt; rw [e]; rfl
    rw [hn] at h1 h3
    dsimp only at h1 h3 ⊢
    rw [if_neg]
    unfold keyT
    simp [h1, h3]
/-- What holds at the head of the loop. -/
structure ItE (w0 : World) (ta : Option Addr) (tc : Nat) (toks : List Tm) (Z : Nat → Prop) (R i n K B f : Nat) (cl : List UInt8) (G : Value) (L : List Xp) (w : World) (r : PR Vl) (acc : List Xp) (keys : List (List UInt8)) (j f' : Nat) (G' kv : Value) (wr : World) : Prop where
  rs : RS w0 ta tc toks (ZK Z K kv) R j G' (L ++ acc) wr
  ky : KeyS R n K B G' keys kv wr
  fm : FmN n R G G' w wr
  lt : i ≤ j
  le : f' ≤ f
  kl : keys.length = acc.length
  eq : (acc = [] ∧ keys = [] ∧ pP toks f' (.lst cl true true [] []) j = r) ∨ (acc ≠ [] ∧ hdI toks f' cl true acc keys j = r)
/-- What items leave, for entries. -/
def DoneIE (w0 : World) (ta : Option Addr) (tc : Nat) (toks : List Tm) (Z : Nat → Prop) (R i n K B : Nat) (G : Value) (L : List Xp) (w : World) : PR Vl → Ending → World → Prop
  | .out, _, _ => True
  | .err a er, e, w' => e = PanE er ∧ (∃ G', FmN n R G G' w w') ∧ Below w0.heap.size w0 w' ∧ w'.cell? ⟨R, 1, none⟩ = some (.int .i64 a)
  | .ok x a, e, w' => e = .returned (.int .i64 (x.ar.length : Nat)) ∧ i < a ∧ ∃ G' kv', RS w0 ta tc toks (ZK Z K kv') R a G' (L ++ x.ar) w' ∧ FmN n R G G' w w' ∧ KeyS R n K B G' x.ky kv' w' ∧ x.ky.length = x.ar.length
/-- The closure, at every state. -/
theorem entry_any {Z : Nat → Prop} {i : Nat} {G : Value} {L : List Xp} {w : World} {ks : List (List UInt8)} {kv : Value} (hE : EnvR w0 ta toks) (f : Nat) (hC : PartOk w0 ta tc toks R 51 #[.pointer (some ⟨R, 0, none⟩)] f .cond) (h : RS w0 ta tc toks (ZK Z K kv) R i G L w) (hk : KeyS R n K B G ks kv w) (hZ : ∀ k, Z k → k < n)
    (hkl : ks.length ≤ 1073741824) (cl : List UInt8) (first : Bool) (acc : List Xp) (r : PR Vl) (h0 : ¬ (first = true ∧ opTk (tsOf toks) i cl = true)) (hr : pP toks (f + 1) (.lst cl true first acc ks) i = r) (hne : r ≠ .out) :
    ∃ s r2, r = r2.bind (fun x a => hdI toks f cl true (acc ++ [x]) (ks ++ [s]) a) ∧ r2 ≠ .out ∧ Calls Tryz.prog 245 #[.pointer (some ⟨K, 0, none⟩), .pointer (some ⟨B, 0, none⟩)] w (DoneE w0 ta tc toks Z R i n K B G L ks w s r2) := by
  by_cases hx : (nxt toks i).1 = 1 ∨ (nxt toks i).1 = 3
  · rw [lstE_key f cl first acc ks i h0 (k := (nxt toks i).1) (s := (nxt toks i).2) rfl hx] at hr
    have hn2 : entP toks f i ≠ .out := bind_out (by rw [hr]; exact hne)
    exact ⟨_, _, hr.symm, hn2, entry_key hE f hC h hk hZ hkl (k := (nxt toks i).1) (s := (nxt toks i).2) rfl hx hn2⟩
  · rw [lstE_no f cl first acc ks i h0 (fun e => hx (.inl e)) (fun e => hx (.inr e))] at hr
    exact ⟨[], .err i (miss (tsOf toks) i), by rw [← hr]; rfl, by simp, entry_nokey h hk (fun e => hx (.inl e)) (fun e => hx (.inr e)) []⟩
set_option maxHeartbeats 8000000 in
set_option maxRecDepth 100000 in
theorem itemsE_of (hE : EnvR w0 ta toks) (f : Nat) (cl : List UInt8) (hcl : cl ≠ []) (hC : ∀ f', f' < f → PartOk w0 ta tc toks R 51 #[.pointer (some ⟨R, 0, none⟩)] f' .cond)
    (Z : Nat → Prop) (i : Nat) (G : Value) (L : List Xp) (w : World) (hZ : ∀ k, Z k → k < n) (h : RS w0 ta tc toks (ZK Z K (.slice none 0 0)) R i G L w) (hk : KeyS R n K B G [] (.slice none 0 0) w) (hne : pP toks f (.lst cl true true [] []) i ≠ .out) :
    Calls Tryz.prog 230 #[.pointer (some ⟨R, 0, none⟩), .string ⟨cl.toArray⟩, .func (.func 245) #[] #[.pointer (some ⟨K, 0, none⟩), .pointer (some ⟨B, 0, none⟩)]] w (DoneIE w0 ta tc toks Z R i n K B G L w (pP toks f (.lst cl true true [] []) i)) := by
  obtain ⟨r, hr⟩ : ∃ r, r = pP toks f (.lst cl true true [] []) i := ⟨_, rfl⟩
  rw [← hr] at hne ⊢
  obtain ⟨Q, hQ⟩ : ∃ Q, Q = DoneIE w0 ta tc toks Z R i n K B G L w r := ⟨_, rfl⟩
  rw [← hQ]
  have HQ1 := Lib.hid hQ
  have HN1 := Lib.hid hne
  have HE := Lib.hid hE
  have HC := Lib.hid hC
  have HI := Lib.hid (show ItE w0 ta tc toks Z R i n K B f cl G L w r [] [] i f G (.slice none 0 0) w from ⟨by rw [List.append_nil]; exact h, hk, FmN.refl _ _ _ _, Nat.le_refl _, Nat.le_refl _, rfl, .inl ⟨rfl, rfl, hr.symm⟩⟩)
  have few := hE.few
  obtain ⟨cx, hcx⟩ : ∃ cx : ByteArray, cx = ⟨cl.toArray⟩ := ⟨_, rfl⟩
  rw [← hcx]
  have HCX := Lib.hid hcx
  clear hQ hne hE hC h hr hcx hk
  go_enter Tryz.func230, Tryz.ntmps230
  go_wp2_with fail
  go_loopw [7] (fun s7 wr => ∃ (acc : List Xp) (keys : List (List UInt8)) (j f' : Nat) (G' kv : Value), s7 = .int .i64 (acc.length : Nat) ∧ Hid (ItE w0 ta tc toks Z R i n K B f cl G L w r acc keys j f' G' kv wr)) (fun _ wr => toks.length - atOf wr R)
  case atStart => exact ⟨[], [], i, f, G, _, rfl, HI⟩
  case round =>
    obtain ⟨acc, keys, j, f', G', kv, rfl, HJ⟩ := hrel
    clear HI
    have hle := HJ.out.le
    have hlj := HJ.out.lt
    have hat0 := HJ.out.rs.atOf
    have hac : acc.length ≤ 1073741824 := by
      have h1 := HJ.out.rs.hL
      have h2 := HJ.out.rs.hi
      rw [List.length_append] at h1
      omega
    by_cases hq : nxt toks j = (4, cl)
    · have A1 := accept_yes HE.out HJ.out.rs hq
      rw [← HCX.out] at A1
      have A1 := Lib.hid A1
      have hr2 : r = .ok (.mk 0 zeroV [] acc keys) (j + 1) := by
        have ho := (op_nxt _ _ _).2 hq
        rcases HJ.out.eq with ⟨rfl, rfl, e⟩ | ⟨_, e⟩
        · cases f' with
          | zero => exact absurd e.symm HN1.out
          | succ f2 =>
            rw [lstE_end _ _ _ _ _ ho] at e
            exact e.symm
        · unfold hdI at e
          rw [if_pos ho] at e
          exact e.symm
      have HEQ := Lib.hid hr2
      clear hr2 hq
      go_wp2_with fail
      go_fit A1.out
      rintro e w2 ⟨rfl, h2, f2'⟩
      have H2 := Lib.hid h2
      have K2 := Lib.hid (HJ.out.ky.stay f2')
      have F2 := Lib.hid (HJ.out.fm.trans (f2'.toN (by have := HJ.out.ky.kc.lt; have := HJ.out.ky.kn; omega)))
      clear h2 f2'
      go_wp2_with fail
      rw [HQ1.out, HEQ.out]
      exact ⟨rfl, by omega, _, _, H2.out, F2.out, K2.out, HJ.out.kl⟩
    · have A1 := accept_no HJ.out.rs hq hcl
      rw [← HCX.out] at A1
      have A1 := Lib.hid A1
      have ho := op_nxt_no hq
      by_cases hac0 : acc = []
      · subst hac0
        have hkn : keys = [] := by
          have := HJ.out.kl
          exact List.eq_nil_of_length_eq_zero (by simpa using this)
        subst hkn
        obtain ⟨f2, rfl⟩ : ∃ f2, f' = f2 + 1 := by
          cases f' with
          | zero => exact absurd (by rcases HJ.out.eq with ⟨_, _, e⟩ | ⟨e, _⟩; exact e.symm; exact absurd rfl e) HN1.out
          | succ f2 => exact ⟨f2, rfl⟩
        have heq : pP toks (f2 + 1) (.lst cl true true [] []) j = r := by
          rcases HJ.out.eq with ⟨_, _, e⟩ | ⟨e, _⟩
          · exact e
          · exact absurd rfl e
        obtain ⟨s, r2, he, hn2, CC⟩ := entry_any HE.out f2 (HC.out f2 (by omega)) HJ.out.rs HJ.out.ky hZ (by simp) cl true [] r (by rw [ho]; simp) heq HN1.out
        have CC := Lib.hid CC
        have HEQ := Lib.hid he
        have HN2 := Lib.hid hn2
        clear heq hq ho he hn2
        go_wp2_with fail
        go_fit A1.out
        rintro e w2 ⟨rfl, rfl⟩
        go_wp2_with fail
        go_fit CC.out
        clear CC A1
        cases r2 with
        | out => exact absurd rfl HN2.out
        | err a er =>
          rintro e w4 ⟨rfl, ⟨G4, f4⟩, hb4, hc4⟩
          have F4 := Lib.hid (HJ.out.fm.trans f4)
          have HB4 := Lib.hid hb4
          have HC4 := Lib.hid hc4
          clear f4 hb4 hc4
          go_wp2_with fail
          rw [HQ1.out, HEQ.out]
          exact ⟨rfl, rfl, ⟨G4, F4.out⟩, HB4.out, HC4.out⟩
        | ok y a =>
          rintro e w4 ⟨rfl, hlt4, G4, kv4, h4, f4, k4⟩
          have HI := Lib.hid (show ItE w0 ta tc toks Z R i n K B f cl G L w r [y] [s] a f2 G4 kv4 w4 from ⟨by rw [show L ++ [y] = L ++ [] ++ [y] by simp]; exact h4, k4, HJ.out.fm.trans f4, by omega, by omega, rfl, .inr ⟨by simp, HEQ.out.symm⟩⟩)
          have hat := HI.out.rs.atOf
          have hia := HI.out.rs.hi
          clear h4 f4 k4
          go_wp2_with fail
          exact ⟨⟨[y], [s], a, f2, G4, kv4, rfl, HI⟩, by rw [hat, hat0]; omega⟩
      · have heq : hdI toks f' cl true acc keys j = r := by
          rcases HJ.out.eq with ⟨e, _, _⟩ | ⟨_, e⟩
          · exact absurd e hac0
          · exact e
        unfold hdI at heq
        rw [ho, if_neg (by decide)] at heq
        have hpos : 0 < acc.length := List.length_pos_iff.2 hac0
        have g0 : (0 : Int) < (acc.length : Int) := by omega
        have HAC := Lib.hid hac0
        have hkl := HJ.out.kl
        obtain ⟨m, hn⟩ : ∃ m, m = acc.length := ⟨_, rfl⟩
        rw [← hn] at g0 hac hkl ⊢
        have HNN := Lib.hid hn
        clear hpos hac0
        by_cases hq2 : nxt toks j = (4, [44])
        · rw [if_pos ((op_nxt _ _ _).2 hq2)] at heq
          have N := Lib.hid (need_yes HE.out HJ.out.rs hq2)
          obtain ⟨f2, rfl⟩ : ∃ f2, f' = f2 + 1 := by
            cases f' with
            | zero => exact absurd heq.symm HN1.out
            | succ f2 => exact ⟨f2, rfl⟩
          have HEQ0 := Lib.hid heq
          have hkl2 : keys.length ≤ 1073741824 := by omega
          have HKL := Lib.hid hkl
          clear heq hq ho hq2 hn hkl
          go_wp2_with fail
          go_fit A1.out
          rintro e w2 ⟨rfl, rfl⟩
          go_wp2_with fail
          go_fit N.out
          rintro e w3 ⟨rfl, h3, f3⟩
          obtain ⟨s, r2, he, hn2, CC⟩ := entry_any HE.out f2 (HC.out f2 (by omega)) h3 (HJ.out.ky.stay f3) hZ hkl2 cl false acc r (by simp) HEQ0.out HN1.out
          have CC := Lib.hid CC
          have HEQ := Lib.hid he
          have HN2 := Lib.hid hn2
          have F3 := Lib.hid (HJ.out.fm.trans (f3.toN (by have := HJ.out.ky.kc.lt; have := HJ.out.ky.kn; omega)))
          clear h3 f3 N A1 he hn2 HEQ0
          go_wp2_with fail
          go_fit CC.out
          clear CC
          cases r2 with
          | out => exact absurd rfl HN2.out
          | err a er =>
            rintro e w4 ⟨rfl, ⟨G4, f4⟩, hb4, hc4⟩
            have F4 := Lib.hid (F3.out.trans f4)
            have HB4 := Lib.hid hb4
            have HC4 := Lib.hid hc4
            clear f4 hb4 hc4
            go_wp2_with fail
            rw [HQ1.out, HEQ.out]
            exact ⟨rfl, rfl, ⟨G4, F4.out⟩, HB4.out, HC4.out⟩
          | ok y a =>
            rintro e w4 ⟨rfl, hlt4, G4, kv4, h4, f4, k4⟩
            have HI := Lib.hid (show ItE w0 ta tc toks Z R i n K B f cl G L w r (acc ++ [y]) (keys ++ [s]) a f2 G4 kv4 w4 from ⟨by rw [← List.append_assoc]; exact h4, k4, F3.out.trans f4, by omega, by omega, by rw [List.length_append, List.length_append, List.length_singleton, List.length_singleton, HKL.out, HNN.out], .inr ⟨by simp, HEQ.out.symm⟩⟩)
            have hat := HI.out.rs.atOf
            have hia := HI.out.rs.hi
            clear h4 f4 k4
            go_wp2_with fail
            exact ⟨⟨acc ++ [y], keys ++ [s], a, f2, G4, kv4, by rw [List.length_append, List.length_singleton, ← HNN.out]; go_num, HI⟩, by rw [hat, hat0]; omega⟩
        · rw [op_nxt_no hq2, if_neg (by decide)] at heq
          have N := Lib.hid (need_no HJ.out.rs hq2 (by decide))
          obtain ⟨er, her⟩ : ∃ er, er = miss (tsOf toks) j := ⟨_, rfl⟩
          rw [← her] at N heq
          have HEQ := Lib.hid heq
          clear heq hq hq2 ho her hn
          go_wp2_with fail
          go_fit A1.out
          rintro e w2 ⟨rfl, rfl⟩
          go_wp2_with fail
          go_fit N.out
          rintro e w5 ⟨rfl, hb5⟩
          obtain ⟨na, hcb⟩ := HJ.out.rs.box
          have HC6 := Lib.hid ((hcb.below hb5).cell (k := 1) (u := .int .i64 (j : Nat)) rfl)
          have HB6 := Lib.hid (HJ.out.rs.below.trans (hb5.mono HJ.out.rs.below.size))
          have F6 := Lib.hid (HJ.out.fm.trans ((Fm.of_below (R := R) (G := G') hb5).toN (by have := HJ.out.ky.kc.lt; have := HJ.out.ky.kn; omega)))
          clear hb5 hcb
          go_wp2_with fail
          rw [HQ1.out, ← HEQ.out]
          exact ⟨rfl, rfl, ⟨G', F6.out⟩, HB6.out, HC6.out⟩
end
end Go.Proofs.YtjehhldboopocaaGreatDoor.Lx
