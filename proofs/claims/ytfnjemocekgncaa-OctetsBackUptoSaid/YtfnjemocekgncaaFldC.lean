/- The encoding of a field, and the contract of octets.appendField. -/
import Derived.Test.YtfnjemocekgncaaFldB
import Derived.Test.YtfnjemocekgncaaOctG
namespace Go.Proofs.Ytfnjemocekgncaa
open Go.RowKit Go.Lib

def kindB (k : Int) : UInt8 := (k % 256).toNat.toUInt8
theorem kindB_cell (k : Int) : Lib.byteCells [kindB k] = [Value.int .u8 (k % 256)] := by
  have h : (k % 256).toNat < 256 := by omega
  have e : ((kindB k).toNat : Int) = k % 256 := by
    unfold kindB
    rw [show (k % 256).toNat.toUInt8.toNat = (k % 256).toNat from by simp; omega]
    omega
  simp [Lib.byteCells, e]
/-- The encoding of a field whose list has at most m - 1 levels. -/
def encF : Nat → Fd → List UInt8
  | 0, _ => []
  | m + 1, .mk k i s l => kindB k :: (if k = 0 then Lib.uvarint (Lib.zigzag i) else if k = 1 then encS s else Lib.uvarint l.length ++ l.flatMap (encF m))

/-- The contract, for lists of at most m levels. -/
def AppOk (m : Nat) : Prop := ∀ (n : Nat) (k i : Int) (s : ByteArray) (v : Option Addr) (c : Nat) (l : List Fd) (w0 w : World) (sv : Value) (xs : List Value),
  -9223372036854775808 ≤ i → i ≤ 9223372036854775807 → l.length ≤ 9223372036854775807 → ReadsF m w0 v l → Below w0.heap.size w0 w → w0.heap.size ≤ w.heap.size → w.ownsRow w0.heap.size 5 1 sv n xs → n + (encF (m + 1) (.mk k i s l)).length + 10 ≤ 140737488355328 →
  Calls Try.prog 35 #[sv, .agg #[.int .i64 k, .int .i64 i, .string s, .slice v l.length c]] w (Owns w0.heap.size n xs w (encF (m + 1) (.mk k i s l)))

/-- A row that has grown by d since world w. -/
def Done (B n : Nat) (xs : List Value) (w : World) (d : List UInt8) (v : Value) (w' : World) : Prop :=
  w'.ownsRow B 5 1 v (n + d.length) (xs ++ Lib.byteCells d) ∧ Below B w w' ∧ KeepT w w'
theorem Done.app {B n : Nat} {xs : List Value} {w w1 w2 w3 : World} {d r : List UInt8} {v : Value} {e : Ending} (h : Done B n xs w d v w1) (hb : Below B w1 w2) (hk : KeepT w1 w2)
    (ho : Owns B (n + d.length) (xs ++ Lib.byteCells d) w2 r e w3) : ∃ v', e = .returned v' ∧ Done B n xs w (d ++ r) v' w3 := by
  obtain ⟨v', he, h1, h2, h3⟩ := ho
  refine ⟨v', he, ?_, h.2.1.trans (hb.trans h2), h.2.2.trans (hk.trans h3)⟩
  rw [List.length_append, byteCells_app, ← Nat.add_assoc, ← List.append_assoc]
  exact h1
theorem Done.owns {B n : Nat} {xs : List Value} {w w1 : World} {d : List UInt8} {v : Value} (h : Done B n xs w d v w1) : Owns B n xs w d (.returned v) w1 := ⟨v, rfl, h⟩

set_option maxHeartbeats 4000000 in
set_option maxRecDepth 100000 in
theorem appendField_int (m n : Nat) (i : Int) (s : ByteArray) (v : Option Addr) (c : Nat) (l : List Fd) (B : Nat) (w : World) (sv : Value) (xs : List Value)
    (h0 : -9223372036854775808 ≤ i) (h1 : i ≤ 9223372036854775807) (hBw : B ≤ w.heap.size) (hown : w.ownsRow B 5 1 sv n xs) (hlim : n + 11 ≤ 140737488355328) :
    Calls Try.prog 35 #[sv, .agg #[.int .i64 0, .int .i64 i, .string s, .slice v l.length c]] w (Owns B n xs w (encF (m + 1) (.mk 0 i s l))) := by
  obtain ⟨i0, hi, hz0, hz1, hz2⟩ := info_parts info8
  have HE := Lib.hid (show encF (m + 1) (.mk 0 i s l) = kindB 0 :: Lib.uvarint (Lib.zigzag i) by simp [encF])
  rw [HE.out]
  go_enter Try.func35, Try.ntmps35
  go_wp2_with (at_builtin; refine wpList_append_own _ rfl _ _ 23 rfl B 5 i0 (.int .u8 0) 1 1 Try.underlying23 hi hz0 hz1 hz2 rfl (by decide) _ _ _ rfl ((hown.alloc _).alloc _) ⟨w.heap.size + 1, 0, none⟩ 1 1 [Value.int .u8 0] rfl rfl ?c1 ?c2 ?c3 ?c4 ?c5 ?_)
  case c1 =>
    intro j u hj
    match j, hj with
    | 0, hj => simp at hj; subst hj; simp [Addr.add]
  case c2 => intro u hu; simp at hu; subst hu; rfl
  case c3 => unfold maxLen; omega
  case c4 => omega
  case c5 => simp; omega
  intro v' w1 hown' hgrow _
  have hz1' := hgrow.size
  simp at hz1'
  have hne : some w.heap.size ≠ sv.ownBlock := by intro h; have := (hown.lt _ h.symm).2; omega
  have hb1 := Lib.hid ((((Below.refl B w).alloc hBw _).alloc (by simp; omega) _).grown hgrow (by simp; omega) (fun k hk => (hown.lt k hk).1))
  have hk1 := Lib.hid ((((KeepT.refl w).alloc _).alloc _).append ((hown.alloc _).alloc _) hgrow)
  have blk : w1.heap[w.heap.size]? = some (Obj.cells #[.int .i64 0, .int .i64 i, .string s, .slice v l.length c] 48 (0, 0)) := by
    rw [hgrow.block w.heap.size (by simp; omega) hne]
    rw [Below.heap_alloc (w.alloc _) _ w.heap.size (by simp)]
    exact heap_alloc_new w _
  have BLK := Lib.hid blk
  clear blk
  have g0 : w1.cell? ⟨w.heap.size, 0, none⟩ = some (.int .i64 0) := hgrow.cell (by simp [go_sem]) hne
  have g1 : w1.cell? ⟨w.heap.size, 1, none⟩ = some (.int .i64 i) := hgrow.cell (by simp [go_sem]) hne
  have g2 : w1.cell? ⟨w.heap.size, 2, none⟩ = some (.string s) := hgrow.cell (by simp [go_sem]) hne
  have g3 : w1.cell? ⟨w.heap.size, 3, none⟩ = some (.slice v l.length c) := hgrow.cell (by simp [go_sem]) hne
  have HO := Lib.hid hown'
  clear hown hown' hgrow hne
  go_wp2_with fail
  go_fit (appendInt_any B (n + 1) i h0 h1 v' _ _ HO.out (by omega) (by omega))
  intro e w2 hO
  have hD : Done B n xs w [kindB 0] v' w1 := ⟨by rw [kindB_cell]; exact HO.out, hb1.out, hk1.out⟩
  obtain ⟨v2, rfl, hD2⟩ := hD.app (Below.refl _ _) (KeepT.refl _) (by rw [kindB_cell]; exact hO)
  have HD2 := Lib.hid hD2
  clear hO hD hD2
  go_wp2_with fail
  go_ret
  exact HD2.out.owns

set_option maxHeartbeats 4000000 in
set_option maxRecDepth 100000 in
theorem appendField_str (m n : Nat) (i : Int) (s : ByteArray) (v : Option Addr) (c : Nat) (l : List Fd) (B : Nat) (w : World) (sv : Value) (xs : List Value)
    (hBw : B ≤ w.heap.size) (hown : w.ownsRow B 5 1 sv n xs) (hlim : n + 11 + s.size ≤ 140737488355328) :
    Calls Try.prog 35 #[sv, .agg #[.int .i64 1, .int .i64 i, .string s, .slice v l.length c]] w (Owns B n xs w (encF (m + 1) (.mk 1 i s l))) := by
  obtain ⟨i0, hi, hz0, hz1, hz2⟩ := info_parts info8
  have HE := Lib.hid (show encF (m + 1) (.mk 1 i s l) = kindB 1 :: encS s by simp [encF])
  rw [HE.out]
  go_enter Try.func35, Try.ntmps35
  go_wp2_with (at_builtin; refine wpList_append_own _ rfl _ _ 23 rfl B 5 i0 (.int .u8 0) 1 1 Try.underlying23 hi hz0 hz1 hz2 rfl (by decide) _ _ _ rfl ((hown.alloc _).alloc _) ⟨w.heap.size + 1, 0, none⟩ 1 1 [Value.int .u8 1] rfl rfl ?c1 ?c2 ?c3 ?c4 ?c5 ?_)
  case c1 =>
    intro j u hj
    match j, hj with
    | 0, hj => simp at hj; subst hj; simp [Addr.add]
  case c2 => intro u hu; simp at hu; subst hu; rfl
  case c3 => unfold maxLen; omega
  case c4 => omega
  case c5 => simp; omega
  intro v' w1 hown' hgrow _
  have hz1' := hgrow.size
  simp at hz1'
  have hne : some w.heap.size ≠ sv.ownBlock := by intro h; have := (hown.lt _ h.symm).2; omega
  have hb1 := Lib.hid ((((Below.refl B w).alloc hBw _).alloc (by simp; omega) _).grown hgrow (by simp; omega) (fun k hk => (hown.lt k hk).1))
  have hk1 := Lib.hid ((((KeepT.refl w).alloc _).alloc _).append ((hown.alloc _).alloc _) hgrow)
  have blk : w1.heap[w.heap.size]? = some (Obj.cells #[.int .i64 1, .int .i64 i, .string s, .slice v l.length c] 48 (0, 0)) := by
    rw [hgrow.block w.heap.size (by simp; omega) hne]
    rw [Below.heap_alloc (w.alloc _) _ w.heap.size (by simp)]
    exact heap_alloc_new w _
  have BLK := Lib.hid blk
  clear blk
  have g0 : w1.cell? ⟨w.heap.size, 0, none⟩ = some (.int .i64 1) := hgrow.cell (by simp [go_sem]) hne
  have g1 : w1.cell? ⟨w.heap.size, 1, none⟩ = some (.int .i64 i) := hgrow.cell (by simp [go_sem]) hne
  have g2 : w1.cell? ⟨w.heap.size, 2, none⟩ = some (.string s) := hgrow.cell (by simp [go_sem]) hne
  have g3 : w1.cell? ⟨w.heap.size, 3, none⟩ = some (.slice v l.length c) := hgrow.cell (by simp [go_sem]) hne
  have HO := Lib.hid hown'
  clear hown hown' hgrow hne
  go_wp2_with fail
  go_fit (appendString_any B (n + 1) s v' _ _ HO.out (by omega) (by omega))
  intro e w2 hO
  have hD : Done B n xs w [kindB 1] v' w1 := ⟨by rw [kindB_cell]; exact HO.out, hb1.out, hk1.out⟩
  obtain ⟨v2, rfl, hD2⟩ := hD.app (Below.refl _ _) (KeepT.refl _) (by rw [kindB_cell]; exact hO)
  have HD2 := Lib.hid hD2
  clear hO hD hD2
  go_wp2_with fail
  go_ret
  exact HD2.out.owns

theorem flat_take (g : Fd → List UInt8) (l : List Fd) (j : Nat) (x : Fd) (h : l[j]? = some x) : (l.take (j + 1)).flatMap g = (l.take j).flatMap g ++ g x := by
  obtain ⟨hj, rfl⟩ := List.getElem?_eq_some_iff.1 h
  rw [List.take_succ_eq_append_getElem hj, List.flatMap_append]
  simp
theorem flat_len (g : Fd → List UInt8) (l : List Fd) (j : Nat) : ((l.take j).flatMap g).length ≤ (l.flatMap g).length := by
  have h : l.flatMap g = (l.take j).flatMap g ++ (l.drop j).flatMap g := by rw [← List.flatMap_append, List.take_append_drop]
  rw [h, List.length_append]
  omega

set_option maxHeartbeats 4000000 in
set_option maxRecDepth 100000 in
theorem appendField_list (m n : Nat) (ih : Hid (∀ m', m = m' + 1 → AppOk m')) (k i : Int) (s : ByteArray) (v : Option Addr) (c : Nat) (l : List Fd) (w0 w : World) (sv : Value) (xs : List Value)
    (k0 : k ≠ 0) (k1 : k ≠ 1) (hlen : l.length ≤ 9223372036854775807) (hr : ReadsF m w0 v l) (hbw : Below w0.heap.size w0 w) (hBw : w0.heap.size ≤ w.heap.size)
    (hown : w.ownsRow w0.heap.size 5 1 sv n xs) (hlim : n + (encF (m + 1) (.mk k i s l)).length + 10 ≤ 140737488355328) :
    Calls Try.prog 35 #[sv, .agg #[.int .i64 k, .int .i64 i, .string s, .slice v l.length c]] w (Owns w0.heap.size n xs w (encF (m + 1) (.mk k i s l))) := by
  obtain ⟨i0, hi, hz0, hz1, hz2⟩ := info_parts info8
  have HE := Lib.hid (show encF (m + 1) (.mk k i s l) = kindB k :: (Lib.uvarint l.length ++ l.flatMap (encF m)) by simp [encF, k0, k1])
  rw [HE.out] at hlim
  rw [HE.out]
  rw [List.length_cons, List.length_append] at hlim
  have e0 : (k == 0) = false := by rw [beq_eq_false_iff_ne]; exact k0
  have e1 : (k == 1) = false := by rw [beq_eq_false_iff_ne]; exact k1
  have HR := Lib.hid hr
  have HBW := Lib.hid hbw
  clear k0 k1 hr hbw
  go_enter Try.func35, Try.ntmps35
  go_wp2_with (at_builtin; refine wpList_append_own _ rfl _ _ 23 rfl w0.heap.size 5 i0 (.int .u8 0) 1 1 Try.underlying23 hi hz0 hz1 hz2 rfl (by decide) _ _ _ rfl ((hown.alloc _).alloc _) ⟨w.heap.size + 1, 0, none⟩ 1 1 [Value.int .u8 (k % 256)] rfl rfl ?c1 ?c2 ?c3 ?c4 ?c5 ?_)
  case c1 =>
    intro j u hj
    match j, hj with
    | 0, hj => simp at hj; subst hj; simp [Addr.add]
  case c2 => intro u hu; simp at hu; subst hu; rfl
  case c3 => unfold maxLen; omega
  case c4 => omega
  case c5 => simp; omega
  intro v' w1 hown' hgrow _
  have hz1' := hgrow.size
  simp at hz1'
  have hne : some w.heap.size ≠ sv.ownBlock := by intro h; have := (hown.lt _ h.symm).2; omega
  have hb1 := Lib.hid ((((Below.refl w0.heap.size w).alloc hBw _).alloc (by simp; omega) _).grown hgrow (by simp; omega) (fun k hk => (hown.lt k hk).1))
  have hk1 := Lib.hid ((((KeepT.refl w).alloc _).alloc _).append ((hown.alloc _).alloc _) hgrow)
  have blk : w1.heap[w.heap.size]? = some (Obj.cells #[.int .i64 k, .int .i64 i, .string s, .slice v l.length c] 48 (0, 0)) := by
    rw [hgrow.block w.heap.size (by simp; omega) hne]
    rw [Below.heap_alloc (w.alloc _) _ w.heap.size (by simp)]
    exact heap_alloc_new w _
  have BLK := Lib.hid blk
  clear blk
  have g0 : w1.cell? ⟨w.heap.size, 0, none⟩ = some (.int .i64 k) := hgrow.cell (by simp [go_sem]) hne
  have g1 : w1.cell? ⟨w.heap.size, 1, none⟩ = some (.int .i64 i) := hgrow.cell (by simp [go_sem]) hne
  have g2 : w1.cell? ⟨w.heap.size, 2, none⟩ = some (.string s) := hgrow.cell (by simp [go_sem]) hne
  have g3 : w1.cell? ⟨w.heap.size, 3, none⟩ = some (.slice v l.length c) := hgrow.cell (by simp [go_sem]) hne
  have HO := Lib.hid hown'
  clear hown hown' hgrow hne
  go_wp2_with fail
  go_fit (appendUint_any w0.heap.size (n + 1) l.length (by omega) v' _ _ HO.out (by omega) (by omega))
  intro e w2 hO
  have hD : Done w0.heap.size n xs w [kindB k] v' w1 := ⟨by rw [kindB_cell]; exact HO.out, hb1.out, hk1.out⟩
  have hk12 : KeepT w1 w2 := by obtain ⟨_, _, _, _, h⟩ := hO; exact h
  have hz12 : w1.heap.size ≤ w2.heap.size := by obtain ⟨_, _, _, h, _⟩ := hO; exact h.size
  obtain ⟨v2, rfl, hD2⟩ := hD.app (Below.refl _ _) (KeepT.refl _) (by rw [kindB_cell]; exact hO)
  have eb := World.cell?_of_block (w := w1) (w' := w2) (a := ⟨w.heap.size, 3, none⟩) ((hk12 _ _ _ _ BLK.out (by decide)).trans BLK.out.symm)
  rw [g3] at eb
  have HD2 := Lib.hid hD2
  clear hO hD hD2 hk12 g0 g1 g2 g3 BLK hb1 hk1 HO
  go_wp2_with fail
  go_loopw [0, 6, 36] (fun s0 _ s36 wr => ∃ j : Nat, j ≤ l.length ∧ s36 = .int .i64 j ∧ Done w0.heap.size n xs w ([kindB k] ++ (Lib.uvarint l.length ++ (l.take j).flatMap (encF m))) s0 wr) (fun _ _ s36 _ => l.length - (RowKit.intOf s36).toNat)
  case atStart => exact ⟨0, by omega, rfl, by simpa using HD2.out⟩
  case round =>
    obtain ⟨j, hj, rfl, hdone⟩ := hrel
    have HDN := Lib.hid hdone
    have hzr : w.heap.size ≤ wr.heap.size := hdone.2.1.size
    have HBR := Lib.hid (HBW.out.trans hdone.2.1)
    clear hdone HD2
    by_cases hlt : j < l.length
    · cases m with
      | zero => exact absurd hlt (by have h : l = [] := HR.out; rw [h]; simp)
      | succ m =>
        obtain ⟨b, off, k', i', s', av, c', l', h0, rfl, h2, h3, h4, h5, h6, h7, h8, h9, h10, h11, h12⟩ := HR.out j hlt
        have g3 := (HBR.out.cell (p := ⟨b, _, none⟩) h2).trans h3
        have g4 := (HBR.out.cell (p := ⟨b, _, none⟩) h2).trans h4
        have g5 := (HBR.out.cell (p := ⟨b, _, none⟩) h2).trans h5
        have g6 := (HBR.out.cell (p := ⟨b, _, none⟩) h2).trans h6
        have hft := flat_take (encF (m + 1)) l j _ h0
        have hfl := flat_len (encF (m + 1)) l (j + 1)
        rw [hft, List.length_append] at hfl
        have HFT := Lib.hid hft
        have IH := Lib.hid (fun (wx : World) (sv' : Value) (xs' : List Value) h1 h2' h3' h4' => ih.out m rfl (n + ([kindB k] ++ (Lib.uvarint l.length ++ (l.take j).flatMap (encF (m + 1)))).length) k' i' s' av c' l' w0 wx sv' xs' h9 h10 h11 h12 h1 h2' h3' h4')
        have hlm : n + ([kindB k] ++ (Lib.uvarint l.length ++ (l.take j).flatMap (encF (m + 1)))).length + (encF (m + 1) (.mk k' i' s' l')).length + 10 ≤ 140737488355328 := by
          simp only [List.length_append, List.length_cons, List.length_nil]
          omega
        have HLM := Lib.hid hlm
        clear h0 h2 h3 h4 h5 h6 h7 h8 h9 h10 h12 hft hfl hlm
        go_wp2_with fail
        go_fit (IH.out _ _ _ (HBR.out.alloc (by omega) _) (by simp; omega) (HDN.out.1.alloc _) HLM.out)
        intro e w3 hO
        obtain ⟨v3, rfl, hD3⟩ := HDN.out.app ((Below.refl _ _).alloc (by omega) _) ((KeepT.refl _).alloc _) hO
        have HD3 := Lib.hid hD3
        clear hO hD3
        go_wp2_with fail
        refine ⟨⟨j + 1, by omega, by go_num, ?_⟩, by simp [RowKit.intOf]; omega⟩
        have := HD3.out
        rw [HFT.out]
        simpa only [List.append_assoc] using this
    · obtain rfl : j = l.length := by omega
      go_wp2_with fail
      go_ret
      have := HDN.out
      rw [List.take_of_length_le (Nat.le_refl _)] at this
      exact this.owns

theorem appendField_all : ∀ m, AppOk m
  | m => by
    intro n k i s v c l w0 w sv xs h0 h1 hlen hr hb hz hown hlim
    by_cases k0 : k = 0
    · subst k0
      refine appendField_int m n i s v c l w0.heap.size w sv xs h0 h1 hz hown ?_
      have := Lib.uvarint_pos (Lib.zigzag i)
      simp [encF] at hlim
      omega
    · by_cases k1 : k = 1
      · subst k1
        refine appendField_str m n i s v c l w0.heap.size w sv xs hz hown ?_
        have := Lib.uvarint_pos s.size
        simp [encF, encS] at hlim
        have e : s.data.size = s.size := rfl
        omega
      · exact appendField_list m n (fun m' hm => by subst hm; exact appendField_all m') k i s v c l w0 w sv xs k0 k1 hlen hr hb hz hown hlim
end Go.Proofs.Ytfnjemocekgncaa
