/- Contracts of functions of the program, and what they are made of (parser; Pk38). -/
import Derived.Test.YtjehhldboopocaaGreatDoorPk10
import Derived.Test.YtjehhldboopocaaGreatDoorPk11
import Derived.Test.YtjehhldboopocaaGreatDoorPk36
import Derived.Test.YtjehhldboopocaaGreatDoorPk37
import Derived.Lib.VarintMem
namespace Go.Proofs.YtjehhldboopocaaGreatDoor
open Go.RowKit Go.Lib
/-- appendLiteral at valid values of at most m levels below, that lie in w0. -/
def AppP (w0 : World) (m : Nat) : Prop := ∀ (q : Nat) (V : Value) (x : Vl) (n : Nat) (sv : Value) (xs : List Value) (w : World), errV q x = 0 → IsV m w0 V x → Below w0.heap.size w0 w → w.ownsRow w0.heap.size 5 1 sv n xs → n + (litV m x).length + 64 ≤ 140737488355328 →
  Calls Tryz.prog 103 #[sv, V] w (OwnB w0.heap.size n sv xs w (litV m x))
/-- appendElements likewise. -/
def AppE (w0 : World) (m : Nat) : Prop := ∀ (q : Nat) (k : Int) (t : Bool) (i : Int) (s : ByteArray) (l : List Vl) (ks : List (List UInt8)) (av kv : Option Addr) (c kc : Nat) (f : Vl → List UInt8) (n : Nat) (sv : Value) (xs : List Value) (w : World),
  (∀ y, y ∈ l → errV q y = 0) → (k = 5 → ks.length = l.length) → l.length ≤ 9223372036854775000 → ks.length ≤ 9223372036854775000 → (∀ x, x ∈ ks → x.length ≤ 140737488351232) → ReadsStr w0 kv ks → ReadsV m w0 av l → (∀ m', m = m' + 1 → f = litV m') → Below w0.heap.size w0 w → w.ownsRow w0.heap.size 5 1 sv n xs → n + (itemsL f (k == 5) l ks l.length).length + 64 ≤ 140737488355328 →
  Calls Tryz.prog 144 #[sv, .agg #[.int .i64 k, .bool t, .int .i64 i, .string s, .slice av l.length c, .slice kv ks.length kc]] w (OwnB w0.heap.size n sv xs w (itemsL f (k == 5) l ks l.length))

set_option maxHeartbeats 8000000 in
set_option maxRecDepth 100000 in
theorem appElems_list (w0 : World) (m : Nat) (ih : ∀ m', m = m' + 1 → AppP w0 m') : AppE w0 m := by
  intro q k t i s l ks av kv c kc f n sv xs w hq hk hlen hklen hsz hr hl hf hbw hown hlim
  have HI := Lib.hid ih
  have HQ := Lib.hid hq
  have HR := Lib.hid hr
  have HL := Lib.hid hl
  have HF := Lib.hid hf
  have HBW := Lib.hid hbw
  have HO := Lib.hid hown
  have HSZ := Lib.hid hsz
  obtain ⟨i0, hi, hz0, hz1, hz2⟩ := info_parts info8
  have hbz := hbw.size
  clear ih hq hr hl hf hbw hown hsz
  by_cases hk5 : k = 5
  · subst hk5
    have HKL := Lib.hid (hk rfl)
    have gk : ((5 : Int) == 5) = true := rfl
    rw [gk] at hlim ⊢
    clear hk
    have VA := CellsAt.new w 26 #[.int .i64 5, .bool t, .int .i64 i, .string s, .slice av l.length c, .slice kv ks.length kc]
    go_enter Tryz.func144, Tryz.ntmps144
    go_wp2_with fail
    go_loopw [0, 10] (fun s0 s10 wr => ∃ j : Nat, j ≤ l.length ∧ s10 = .int .i64 (j : Int) ∧ Hid (wr.ownsRow w0.heap.size 5 1 s0 (n + (itemsL f true l ks j).length) (xs ++ Lib.byteCells (itemsL f true l ks j))) ∧ Hid (CellsAt wr w.heap.size 26 #[.int .i64 5, .bool t, .int .i64 i, .string s, .slice av l.length c, .slice kv ks.length kc]) ∧ Hid (Below w0.heap.size w wr) ∧ Hid (Frm sv s0 w wr)) (fun _ s10 _ => l.length - (RowKit.intOf s10).toNat)
    case atStart => exact ⟨0, by omega, rfl, Lib.hid (by simpa [itemsL_zero, Lib.byteCells] using HO.out.alloc _), Lib.hid VA, Lib.hid ((Below.refl _ w).alloc hbz _), Lib.hid ((Frm.refl sv w).right ((Below.refl w.heap.size w).alloc (Nat.le_refl _) _))⟩
    case round =>
      obtain ⟨j, hj, rfl, HOJ, C, HB, HK⟩ := hrel
      have HB0 := Lib.hid (HBW.out.trans HB.out)
      have hzr : w0.heap.size ≤ wr.heap.size := HB0.out.size
      clear VA
      by_cases hlt : j < l.length
      · cases m with
        | zero => exact absurd hlt (by have h : l = [] := HL.out; rw [h]; simp)
        | succ m =>
        obtain ⟨b, off, k1, t1, i1, s1, l1, ks1, av1, c1, kv1, kc1, h0, rfl, h2, e0, e1, e2, e3, e4, e5, q0, q1, q2, q3, q4, q5, q6, q7, q8, q9, hs1, hl1⟩ := HL.out j hlt
        have p0 := (HB0.out.cell (p := ⟨b, _, none⟩) h2).trans e0
        have p1 := (HB0.out.cell (p := ⟨b, _, none⟩) h2).trans e1
        have p2 := (HB0.out.cell (p := ⟨b, _, none⟩) h2).trans e2
        have p3 := (HB0.out.cell (p := ⟨b, _, none⟩) h2).trans e3
        have p4 := (HB0.out.cell (p := ⟨b, _, none⟩) h2).trans e4
        have p5 := (HB0.out.cell (p := ⟨b, _, none⟩) h2).trans e5
        have hx : l[j]? = some (.mk k1 t1 i1 s1 l1 ks1) := h0
        have hmem : Vl.mk k1 t1 i1 s1 l1 ks1 ∈ l := List.mem_of_getElem? h0
        have hfm := HF.out m rfl
        subst hfm
        have hle := itemsL_le (litV m) true l ks (j + 1) (l.length - (j + 1))
        rw [show j + 1 + (l.length - (j + 1)) = l.length by omega] at hle
        have hsuc := itemsL_succ (litV m) true l ks j
        obtain ⟨LX, hLX⟩ : ∃ LX, LX = litV m (.mk k1 t1 i1 s1 l1 ks1) := ⟨_, rfl⟩
        have hjk : j < ks.length := by have := HKL.out; omega
        have hgd : ks.getD j [] = ks[j] := by simp [hjk]
        obtain ⟨bk, offk, hkv, hk2, ek⟩ := HR.out j hjk
        subst hkv
        have hksz := HSZ.out _ (List.getElem_mem hjk)
        obtain ⟨QX, hQX⟩ : ∃ QX, QX = quoL ks[j] := ⟨_, rfl⟩
        have hel : eltL (litV m) true l ks j = (if j = 0 then [] else [44, 32]) ++ (QX ++ [58, 32] ++ LX) := by unfold eltL; rw [hx, if_pos (show true = true from rfl), hLX, hQX, hgd]
        have FK := Lib.hid (fun (n' : Nat) => appStr_any w0.heap.size n' ⟨ks[j].toArray⟩ (by rw [mkS_size]; exact hksz))
        simp only at FK
        rw [← hQX] at FK
        obtain ⟨kx, hkx⟩ : ∃ kx : ByteArray, kx = ⟨ks[j].toArray⟩ := ⟨_, rfl⟩
        rw [← hkx] at ek FK
        have HEK := Lib.hid (And.intro hk2 ek)
        have hjkI : (j : Int) < (ks.length : Int) := by omega
        have F := Lib.hid (fun (n' : Nat) (sv' : Value) (xs' : List Value) (w' : World) (hb : Below w0.heap.size w0 w') h1 h2 => HI.out m rfl q (.agg #[.int .i64 k1, .bool t1, .int .i64 i1, .string s1, .slice av1 l1.length c1, .slice kv1 ks1.length kc1]) (.mk k1 t1 i1 s1 l1 ks1) n' sv' xs' w' (HQ.out _ hmem) ⟨k1, t1, i1, s1, l1, ks1, av1, c1, kv1, kc1, rfl, rfl, q0, q1, q2, q3, q4, q5, q6, q7, q8, q9, hs1, hl1⟩ hb h1 h2)
        rw [← hLX] at F
        rw [hel] at hsuc
        have hjI : (j : Int) < (l.length : Int) := by omega
        have hj00 : (0 : Int) ≤ (j : Int) := by omega
        obtain ⟨PJ, hPJ⟩ : ∃ PJ, PJ = itemsL (litV m) true l ks j := ⟨_, rfl⟩
        rw [← hPJ] at HOJ hsuc
        have EB := Lib.hid (CellsAt.new wr 26 #[.int .i64 k1, .bool t1, .int .i64 i1, .string s1, .slice av1 l1.length c1, .slice kv1 ks1.length kc1])
        have CB := Lib.hid (C.out.alloc (.cells #[.int .i64 k1, .bool t1, .int .i64 i1, .string s1, .slice av1 l1.length c1, .slice kv1 ks1.length kc1] 26))
        have OB := Lib.hid (HOJ.out.alloc (.cells #[.int .i64 k1, .bool t1, .int .i64 i1, .string s1, .slice av1 l1.length c1, .slice kv1 ks1.length kc1] 26))
        have BB := Lib.hid (HB.out.alloc (show w0.heap.size ≤ wr.heap.size from hzr) (.cells #[.int .i64 k1, .bool t1, .int .i64 i1, .string s1, .slice av1 l1.length c1, .slice kv1 ks1.length kc1] 26))
        have KB := Lib.hid (HK.out.right ((Below.refl wr.heap.size wr).alloc (Nat.le_refl _) (.cells #[.int .i64 k1, .bool t1, .int .i64 i1, .string s1, .slice av1 l1.length c1, .slice kv1 ks1.length kc1] 26)))
        have c0 : (wr.alloc (.cells #[.int .i64 k1, .bool t1, .int .i64 i1, .string s1, .slice av1 l1.length c1, .slice kv1 ks1.length kc1] 26)).cell? ⟨w.heap.size, 0, none⟩ = some (.int .i64 5) := CB.out.cell rfl
        have c5 : (wr.alloc (.cells #[.int .i64 k1, .bool t1, .int .i64 i1, .string s1, .slice av1 l1.length c1, .slice kv1 ks1.length kc1] 26)).cell? ⟨w.heap.size, 5, none⟩ = some (.slice (some ⟨bk, offk, none⟩) ks.length kc) := CB.out.cell rfl
        have pk := ((HBW.out.trans BB.out).cell (p := ⟨bk, _, none⟩) HEK.out.1).trans HEK.out.2
        clear hmem h0 hx e0 e1 e2 e3 e4 e5 q0 q1 q2 q3 q4 q5 q6 q7 q8 q9 hs1 hl1 hLX hel h2 HOJ C HB HK hPJ hQX hgd ek hk2 hksz hkx
        by_cases hj0 : j = 0
        · rw [if_pos hj0, List.nil_append] at hsuc
          have hjp : ¬ (0 : Int) < (j : Int) := by omega
          have hlen : (itemsL (litV m) true l ks (j + 1)).length = PJ.length + QX.length + 2 + LX.length := by rw [hsuc]; simp; omega
          have HSUC := Lib.hid hsuc
          have hbd : n + PJ.length + QX.length + 2 + LX.length + 64 ≤ 140737488355328 := by omega
          clear hsuc hlen hle hlim hj0
          go_wp2_with fail
          go_fit (FK.out _ _ _ _ OB.out (by simp; omega) (by omega))
          rintro e w2 ⟨v1, rfl, h1, h2, h3⟩
          have O1 := Lib.hid (show w2.ownsRow w0.heap.size 5 1 v1 (n + (PJ ++ QX).length) (xs ++ Lib.byteCells (PJ ++ QX)) from OwnB.own h1)
          have B1 := Lib.hid (BB.out.trans h2)
          have K1 := Lib.hid (KB.out.trans h3)
          have E1 := Lib.hid (show CellsAt w2 wr.heap.size 26 #[.int .i64 k1, .bool t1, .int .i64 i1, .string s1, .slice av1 l1.length c1, .slice kv1 ks1.length kc1] from ⟨h3.keepT OB.out _ _ _ _ EB.out.blk (by decide)⟩)
          have C1 := Lib.hid (show CellsAt w2 w.heap.size 26 #[.int .i64 5, .bool t, .int .i64 i, .string s, .slice (some ⟨b, off, none⟩) l.length c, .slice (some ⟨bk, offk, none⟩) ks.length kc] from ⟨h3.keepT OB.out _ _ _ _ CB.out.blk (by decide)⟩)
          have zz1 : w0.heap.size ≤ w2.heap.size := by have := B1.out.size; omega
          clear h1 h2 h3 OB BB KB CB EB c0 c5 pk
          go_wp2_with (at_builtin; refine wpList_str_at _ rfl _ _ 46 9 rfl w0.heap.size 5 i0 Tryz.underlying46 Tryz.underlying9 hi hz0 hz1 hz2 _ _ _ rfl O1.out ⟨#[58, 32]⟩ rfl (show n + (PJ ++ QX).length + 2 ≤ maxLen by unfold maxLen; simp; omega) (show n + (PJ ++ QX).length + 2 ≤ 140737488355328 by simp; omega) zz1 ?_)
          intro v2 w3 ho1 hg1 hat
          have B2 := Lib.hid (B1.out.grown hg1 (by first | (simp; omega) | exact zz1) (fun k hk => (O1.out.lt k hk).1))
          have K2 := Lib.hid (K1.out.trans hat)
          have KK1 := hat.keepT O1.out
          have E2 := Lib.hid (show CellsAt w3 wr.heap.size 26 #[.int .i64 k1, .bool t1, .int .i64 i1, .string s1, .slice av1 l1.length c1, .slice kv1 ks1.length kc1] from ⟨KK1 _ _ _ _ E1.out.blk (by decide)⟩)
          have C2 := Lib.hid (show CellsAt w3 w.heap.size 26 #[.int .i64 5, .bool t, .int .i64 i, .string s, .slice (some ⟨b, off, none⟩) l.length c, .slice (some ⟨bk, offk, none⟩) ks.length kc] from ⟨KK1 _ _ _ _ C1.out.blk (by decide)⟩)
          have O2 := Lib.hid (show w3.ownsRow w0.heap.size 5 1 v2 (n + ((PJ ++ QX) ++ [58, 32]).length) (xs ++ Lib.byteCells ((PJ ++ QX) ++ [58, 32])) from OwnB.own (by first | exact ho1 | simpa [Lib.strCells, Lib.byteCells] using ho1))
          have zz2 : w0.heap.size ≤ w3.heap.size := by have := B2.out.size; omega
          clear ho1 hg1 KK1 hat O1 B1 K1 C1 E1
          have y0 : w3.cell? ⟨wr.heap.size, 0, none⟩ = some (.int .i64 k1) := E2.out.cell rfl
          have y1 : w3.cell? ⟨wr.heap.size, 1, none⟩ = some (.bool t1) := E2.out.cell rfl
          have y2 : w3.cell? ⟨wr.heap.size, 2, none⟩ = some (.int .i64 i1) := E2.out.cell rfl
          have y3 : w3.cell? ⟨wr.heap.size, 3, none⟩ = some (.string s1) := E2.out.cell rfl
          have y4 : w3.cell? ⟨wr.heap.size, 4, none⟩ = some (.slice av1 l1.length c1) := E2.out.cell rfl
          have y5 : w3.cell? ⟨wr.heap.size, 5, none⟩ = some (.slice kv1 ks1.length kc1) := E2.out.cell rfl
          have d0 : w3.cell? ⟨w.heap.size, 0, none⟩ = some (.int .i64 5) := C2.out.cell rfl
          have d5 : w3.cell? ⟨w.heap.size, 5, none⟩ = some (.slice (some ⟨bk, offk, none⟩) ks.length kc) := C2.out.cell rfl
          have pk2 := ((HBW.out.trans B2.out).cell (p := ⟨bk, _, none⟩) HEK.out.1).trans HEK.out.2
          go_wp2_with fail
          go_fit (F.out _ _ _ _ (HBW.out.trans B2.out) O2.out (by simp; omega))
          rintro e w9 ⟨v9, rfl, h1, h2, h3⟩
          have H1 := Lib.hid (OwnB.own h1)
          have H2 := Lib.hid (B2.out.trans h2)
          have H3 := Lib.hid (K2.out.trans h3)
          have H4 := Lib.hid (show CellsAt w9 w.heap.size 26 #[.int .i64 5, .bool t, .int .i64 i, .string s, .slice (some ⟨b, off, none⟩) l.length c, .slice (some ⟨bk, offk, none⟩) ks.length kc] from ⟨h3.keepT O2.out _ _ _ _ C2.out.blk (by decide)⟩)
          clear h1 h2 h3 O2 B2 K2 C2 E2 y0 y1 y2 y3 y4 y5 d0 d5 pk2
          go_wp2_with fail
          refine ⟨⟨j + 1, by omega, by go_num, Lib.hid (by rw [HSUC.out]; simpa only [List.append_assoc, List.cons_append, List.nil_append] using H1.out), H4, H2, H3⟩, by simp [RowKit.intOf]; omega⟩
        · rw [if_neg hj0] at hsuc
          have hjp : (0 : Int) < (j : Int) := by omega
          have hlen : (itemsL (litV m) true l ks (j + 1)).length = PJ.length + 2 + QX.length + 2 + LX.length := by rw [hsuc]; simp; omega
          have HSUC := Lib.hid hsuc
          have hbd : n + PJ.length + 2 + QX.length + 2 + LX.length + 64 ≤ 140737488355328 := by omega
          clear hsuc hlen hle hlim hj0
          go_wp2_with (at_builtin; refine wpList_str_at _ rfl _ _ 46 9 rfl w0.heap.size 5 i0 Tryz.underlying46 Tryz.underlying9 hi hz0 hz1 hz2 _ _ _ rfl OB.out ⟨#[44, 32]⟩ rfl (show n + PJ.length + 2 ≤ maxLen by unfold maxLen; omega) (show n + PJ.length + 2 ≤ 140737488355328 by omega) (by simp; omega) ?_)
          intro v1 w2 ho1 hg1 hat
          have B1 := Lib.hid (BB.out.grown hg1 (by first | (simp; omega) | exact zz0) (fun k hk => (OB.out.lt k hk).1))
          have K1 := Lib.hid (KB.out.trans hat)
          have KK1 := hat.keepT OB.out
          have E1 := Lib.hid (show CellsAt w2 wr.heap.size 26 #[.int .i64 k1, .bool t1, .int .i64 i1, .string s1, .slice av1 l1.length c1, .slice kv1 ks1.length kc1] from ⟨KK1 _ _ _ _ EB.out.blk (by decide)⟩)
          have C1 := Lib.hid (show CellsAt w2 w.heap.size 26 #[.int .i64 5, .bool t, .int .i64 i, .string s, .slice (some ⟨b, off, none⟩) l.length c, .slice (some ⟨bk, offk, none⟩) ks.length kc] from ⟨KK1 _ _ _ _ CB.out.blk (by decide)⟩)
          have O1 := Lib.hid (show w2.ownsRow w0.heap.size 5 1 v1 (n + (PJ ++ [44, 32]).length) (xs ++ Lib.byteCells (PJ ++ [44, 32])) from OwnB.own (by first | exact ho1 | simpa [Lib.strCells, Lib.byteCells] using ho1))
          have zz1 : w0.heap.size ≤ w2.heap.size := by have := B1.out.size; omega
          clear ho1 hg1 KK1 hat OB BB KB CB EB c0 c5 pk
          have y0 : w2.cell? ⟨wr.heap.size, 0, none⟩ = some (.int .i64 k1) := E1.out.cell rfl
          have y1 : w2.cell? ⟨wr.heap.size, 1, none⟩ = some (.bool t1) := E1.out.cell rfl
          have y2 : w2.cell? ⟨wr.heap.size, 2, none⟩ = some (.int .i64 i1) := E1.out.cell rfl
          have y3 : w2.cell? ⟨wr.heap.size, 3, none⟩ = some (.string s1) := E1.out.cell rfl
          have y4 : w2.cell? ⟨wr.heap.size, 4, none⟩ = some (.slice av1 l1.length c1) := E1.out.cell rfl
          have y5 : w2.cell? ⟨wr.heap.size, 5, none⟩ = some (.slice kv1 ks1.length kc1) := E1.out.cell rfl
          have d0 : w2.cell? ⟨w.heap.size, 0, none⟩ = some (.int .i64 5) := C1.out.cell rfl
          have d5 : w2.cell? ⟨w.heap.size, 5, none⟩ = some (.slice (some ⟨bk, offk, none⟩) ks.length kc) := C1.out.cell rfl
          have pk1 := ((HBW.out.trans B1.out).cell (p := ⟨bk, _, none⟩) HEK.out.1).trans HEK.out.2
          go_wp2_with fail
          go_fit (FK.out _ _ _ _ O1.out zz1 (by simp; omega))
          rintro e w3 ⟨v2, rfl, h1, h2, h3⟩
          have O2 := Lib.hid (show w3.ownsRow w0.heap.size 5 1 v2 (n + ((PJ ++ [44, 32]) ++ QX).length) (xs ++ Lib.byteCells ((PJ ++ [44, 32]) ++ QX)) from OwnB.own h1)
          have B2 := Lib.hid (B1.out.trans h2)
          have K2 := Lib.hid (K1.out.trans h3)
          have E2 := Lib.hid (show CellsAt w3 wr.heap.size 26 #[.int .i64 k1, .bool t1, .int .i64 i1, .string s1, .slice av1 l1.length c1, .slice kv1 ks1.length kc1] from ⟨h3.keepT O1.out _ _ _ _ E1.out.blk (by decide)⟩)
          have C2 := Lib.hid (show CellsAt w3 w.heap.size 26 #[.int .i64 5, .bool t, .int .i64 i, .string s, .slice (some ⟨b, off, none⟩) l.length c, .slice (some ⟨bk, offk, none⟩) ks.length kc] from ⟨h3.keepT O1.out _ _ _ _ C1.out.blk (by decide)⟩)
          have zz2 : w0.heap.size ≤ w3.heap.size := by have := B2.out.size; omega
          clear h1 h2 h3 O1 B1 K1 C1 E1 y0 y1 y2 y3 y4 y5 d0 d5 pk1
          go_wp2_with (at_builtin; refine wpList_str_at _ rfl _ _ 46 9 rfl w0.heap.size 5 i0 Tryz.underlying46 Tryz.underlying9 hi hz0 hz1 hz2 _ _ _ rfl O2.out ⟨#[58, 32]⟩ rfl (show n + ((PJ ++ [44, 32]) ++ QX).length + 2 ≤ maxLen by unfold maxLen; simp; omega) (show n + ((PJ ++ [44, 32]) ++ QX).length + 2 ≤ 140737488355328 by simp; omega) zz2 ?_)
          intro v3 w4 ho1 hg1 hat
          have B3 := Lib.hid (B2.out.grown hg1 (by first | (simp; omega) | exact zz2) (fun k hk => (O2.out.lt k hk).1))
          have K3 := Lib.hid (K2.out.trans hat)
          have KK1 := hat.keepT O2.out
          have E3 := Lib.hid (show CellsAt w4 wr.heap.size 26 #[.int .i64 k1, .bool t1, .int .i64 i1, .string s1, .slice av1 l1.length c1, .slice kv1 ks1.length kc1] from ⟨KK1 _ _ _ _ E2.out.blk (by decide)⟩)
          have C3 := Lib.hid (show CellsAt w4 w.heap.size 26 #[.int .i64 5, .bool t, .int .i64 i, .string s, .slice (some ⟨b, off, none⟩) l.length c, .slice (some ⟨bk, offk, none⟩) ks.length kc] from ⟨KK1 _ _ _ _ C2.out.blk (by decide)⟩)
          have O3 := Lib.hid (show w4.ownsRow w0.heap.size 5 1 v3 (n + (((PJ ++ [44, 32]) ++ QX) ++ [58, 32]).length) (xs ++ Lib.byteCells (((PJ ++ [44, 32]) ++ QX) ++ [58, 32])) from OwnB.own (by first | exact ho1 | simpa [Lib.strCells, Lib.byteCells] using ho1))
          have zz3 : w0.heap.size ≤ w4.heap.size := by have := B3.out.size; omega
          clear ho1 hg1 KK1 hat O2 B2 K2 C2 E2
          have y0 : w4.cell? ⟨wr.heap.size, 0, none⟩ = some (.int .i64 k1) := E3.out.cell rfl
          have y1 : w4.cell? ⟨wr.heap.size, 1, none⟩ = some (.bool t1) := E3.out.cell rfl
          have y2 : w4.cell? ⟨wr.heap.size, 2, none⟩ = some (.int .i64 i1) := E3.out.cell rfl
          have y3 : w4.cell? ⟨wr.heap.size, 3, none⟩ = some (.string s1) := E3.out.cell rfl
          have y4 : w4.cell? ⟨wr.heap.size, 4, none⟩ = some (.slice av1 l1.length c1) := E3.out.cell rfl
          have y5 : w4.cell? ⟨wr.heap.size, 5, none⟩ = some (.slice kv1 ks1.length kc1) := E3.out.cell rfl
          have d0 : w4.cell? ⟨w.heap.size, 0, none⟩ = some (.int .i64 5) := C3.out.cell rfl
          have d5 : w4.cell? ⟨w.heap.size, 5, none⟩ = some (.slice (some ⟨bk, offk, none⟩) ks.length kc) := C3.out.cell rfl
          have pk3 := ((HBW.out.trans B3.out).cell (p := ⟨bk, _, none⟩) HEK.out.1).trans HEK.out.2
          go_wp2_with fail
          go_fit (F.out _ _ _ _ (HBW.out.trans B3.out) O3.out (by simp; omega))
          rintro e w9 ⟨v9, rfl, h1, h2, h3⟩
          have H1 := Lib.hid (OwnB.own h1)
          have H2 := Lib.hid (B3.out.trans h2)
          have H3 := Lib.hid (K3.out.trans h3)
          have H4 := Lib.hid (show CellsAt w9 w.heap.size 26 #[.int .i64 5, .bool t, .int .i64 i, .string s, .slice (some ⟨b, off, none⟩) l.length c, .slice (some ⟨bk, offk, none⟩) ks.length kc] from ⟨h3.keepT O3.out _ _ _ _ C3.out.blk (by decide)⟩)
          clear h1 h2 h3 O3 B3 K3 C3 E3 y0 y1 y2 y3 y4 y5 d0 d5 pk3
          go_wp2_with fail
          refine ⟨⟨j + 1, by omega, by go_num, Lib.hid (by rw [HSUC.out]; simpa only [List.append_assoc, List.cons_append, List.nil_append] using H1.out), H4, H2, H3⟩, by simp [RowKit.intOf]; omega⟩
      · obtain rfl : j = l.length := by omega
        go_wp2_with fail
        go_ret
        exact ⟨_, rfl, HOJ.out, HB.out, HK.out⟩
  · have gk : (k == 5) = false := by simpa using hk5
    rw [gk] at hlim ⊢
    clear hk hk5
    have VA := CellsAt.new w 26 #[.int .i64 k, .bool t, .int .i64 i, .string s, .slice av l.length c, .slice kv ks.length kc]
    go_enter Tryz.func144, Tryz.ntmps144
    go_wp2_with fail
    go_loopw [0, 10] (fun s0 s10 wr => ∃ j : Nat, j ≤ l.length ∧ s10 = .int .i64 (j : Int) ∧ Hid (wr.ownsRow w0.heap.size 5 1 s0 (n + (itemsL f false l ks j).length) (xs ++ Lib.byteCells (itemsL f false l ks j))) ∧ Hid (CellsAt wr w.heap.size 26 #[.int .i64 k, .bool t, .int .i64 i, .string s, .slice av l.length c, .slice kv ks.length kc]) ∧ Hid (Below w0.heap.size w wr) ∧ Hid (Frm sv s0 w wr)) (fun _ s10 _ => l.length - (RowKit.intOf s10).toNat)
    case atStart => exact ⟨0, by omega, rfl, Lib.hid (by simpa [itemsL_zero, Lib.byteCells] using HO.out.alloc _), Lib.hid VA, Lib.hid ((Below.refl _ w).alloc hbz _), Lib.hid ((Frm.refl sv w).right ((Below.refl w.heap.size w).alloc (Nat.le_refl _) _))⟩
    case round =>
      obtain ⟨j, hj, rfl, HOJ, C, HB, HK⟩ := hrel
      have HB0 := Lib.hid (HBW.out.trans HB.out)
      have hzr : w0.heap.size ≤ wr.heap.size := HB0.out.size
      clear VA
      by_cases hlt : j < l.length
      · cases m with
        | zero => exact absurd hlt (by have h : l = [] := HL.out; rw [h]; simp)
        | succ m =>
        obtain ⟨b, off, k1, t1, i1, s1, l1, ks1, av1, c1, kv1, kc1, h0, rfl, h2, e0, e1, e2, e3, e4, e5, q0, q1, q2, q3, q4, q5, q6, q7, q8, q9, hs1, hl1⟩ := HL.out j hlt
        have p0 := (HB0.out.cell (p := ⟨b, _, none⟩) h2).trans e0
        have p1 := (HB0.out.cell (p := ⟨b, _, none⟩) h2).trans e1
        have p2 := (HB0.out.cell (p := ⟨b, _, none⟩) h2).trans e2
        have p3 := (HB0.out.cell (p := ⟨b, _, none⟩) h2).trans e3
        have p4 := (HB0.out.cell (p := ⟨b, _, none⟩) h2).trans e4
        have p5 := (HB0.out.cell (p := ⟨b, _, none⟩) h2).trans e5
        have hx : l[j]? = some (.mk k1 t1 i1 s1 l1 ks1) := h0
        have hmem : Vl.mk k1 t1 i1 s1 l1 ks1 ∈ l := List.mem_of_getElem? h0
        have hfm := HF.out m rfl
        subst hfm
        have hle := itemsL_le (litV m) false l ks (j + 1) (l.length - (j + 1))
        rw [show j + 1 + (l.length - (j + 1)) = l.length by omega] at hle
        have hsuc := itemsL_succ (litV m) false l ks j
        obtain ⟨LX, hLX⟩ : ∃ LX, LX = litV m (.mk k1 t1 i1 s1 l1 ks1) := ⟨_, rfl⟩
        have hel : eltL (litV m) false l ks j = (if j = 0 then [] else [44, 32]) ++ LX := by unfold eltL; rw [hx, if_neg (show ¬ false = true by decide), hLX]; rfl
        have F := Lib.hid (fun (n' : Nat) (sv' : Value) (xs' : List Value) (w' : World) (hb : Below w0.heap.size w0 w') h1 h2 => HI.out m rfl q (.agg #[.int .i64 k1, .bool t1, .int .i64 i1, .string s1, .slice av1 l1.length c1, .slice kv1 ks1.length kc1]) (.mk k1 t1 i1 s1 l1 ks1) n' sv' xs' w' (HQ.out _ hmem) ⟨k1, t1, i1, s1, l1, ks1, av1, c1, kv1, kc1, rfl, rfl, q0, q1, q2, q3, q4, q5, q6, q7, q8, q9, hs1, hl1⟩ hb h1 h2)
        rw [← hLX] at F
        rw [hel] at hsuc
        have hjI : (j : Int) < (l.length : Int) := by omega
        have hj00 : (0 : Int) ≤ (j : Int) := by omega
        obtain ⟨PJ, hPJ⟩ : ∃ PJ, PJ = itemsL (litV m) false l ks j := ⟨_, rfl⟩
        rw [← hPJ] at HOJ hsuc
        have EB := Lib.hid (CellsAt.new wr 26 #[.int .i64 k1, .bool t1, .int .i64 i1, .string s1, .slice av1 l1.length c1, .slice kv1 ks1.length kc1])
        have CB := Lib.hid (C.out.alloc (.cells #[.int .i64 k1, .bool t1, .int .i64 i1, .string s1, .slice av1 l1.length c1, .slice kv1 ks1.length kc1] 26))
        have OB := Lib.hid (HOJ.out.alloc (.cells #[.int .i64 k1, .bool t1, .int .i64 i1, .string s1, .slice av1 l1.length c1, .slice kv1 ks1.length kc1] 26))
        have BB := Lib.hid (HB.out.alloc (show w0.heap.size ≤ wr.heap.size from hzr) (.cells #[.int .i64 k1, .bool t1, .int .i64 i1, .string s1, .slice av1 l1.length c1, .slice kv1 ks1.length kc1] 26))
        have KB := Lib.hid (HK.out.right ((Below.refl wr.heap.size wr).alloc (Nat.le_refl _) (.cells #[.int .i64 k1, .bool t1, .int .i64 i1, .string s1, .slice av1 l1.length c1, .slice kv1 ks1.length kc1] 26)))
        have c0 : (wr.alloc (.cells #[.int .i64 k1, .bool t1, .int .i64 i1, .string s1, .slice av1 l1.length c1, .slice kv1 ks1.length kc1] 26)).cell? ⟨w.heap.size, 0, none⟩ = some (.int .i64 k) := CB.out.cell rfl
        clear hmem h0 hx e0 e1 e2 e3 e4 e5 q0 q1 q2 q3 q4 q5 q6 q7 q8 q9 hs1 hl1 hLX hel h2 HOJ C HB HK hPJ
        by_cases hj0 : j = 0
        · rw [if_pos hj0, List.nil_append] at hsuc
          have hjp : ¬ (0 : Int) < (j : Int) := by omega
          have hlen : (itemsL (litV m) false l ks (j + 1)).length = PJ.length + LX.length := by rw [hsuc]; simp only [List.length_append]
          have HSUC := Lib.hid hsuc
          have hbd : n + PJ.length + LX.length + 64 ≤ 140737488355328 := by omega
          clear hsuc hlen hle hlim hj0
          go_wp2_with fail
          go_fit (F.out _ _ _ _ (HBW.out.trans BB.out) OB.out (by omega))
          rintro e w9 ⟨v9, rfl, h1, h2, h3⟩
          have H1 := Lib.hid (OwnB.own h1)
          have H2 := Lib.hid (BB.out.trans h2)
          have H3 := Lib.hid (KB.out.trans h3)
          have H4 := Lib.hid (show CellsAt w9 w.heap.size 26 #[.int .i64 k, .bool t, .int .i64 i, .string s, .slice (some ⟨b, off, none⟩) l.length c, .slice kv ks.length kc] from ⟨h3.keepT OB.out _ _ _ _ CB.out.blk (by decide)⟩)
          clear h1 h2 h3 OB BB KB CB EB c0
          go_wp2_with fail
          refine ⟨⟨j + 1, by omega, by go_num, Lib.hid (by rw [HSUC.out]; simpa only [List.append_assoc, List.cons_append, List.nil_append] using H1.out), H4, H2, H3⟩, by simp [RowKit.intOf]; omega⟩
        · rw [if_neg hj0] at hsuc
          have hjp : (0 : Int) < (j : Int) := by omega
          have hlen : (itemsL (litV m) false l ks (j + 1)).length = PJ.length + 2 + LX.length := by rw [hsuc]; simp; omega
          have HSUC := Lib.hid hsuc
          have hbd : n + PJ.length + 2 + LX.length + 64 ≤ 140737488355328 := by omega
          clear hsuc hlen hle hlim hj0
          go_wp2_with (at_builtin; refine wpList_str_at _ rfl _ _ 46 9 rfl w0.heap.size 5 i0 Tryz.underlying46 Tryz.underlying9 hi hz0 hz1 hz2 _ _ _ rfl OB.out ⟨#[44, 32]⟩ rfl (show n + PJ.length + 2 ≤ maxLen by unfold maxLen; omega) (show n + PJ.length + 2 ≤ 140737488355328 by omega) (by simp; omega) ?_)
          intro v1 w2 ho1 hg1 hat
          have B1 := Lib.hid (BB.out.grown hg1 (by first | (simp; omega) | exact zz0) (fun k hk => (OB.out.lt k hk).1))
          have K1 := Lib.hid (KB.out.trans hat)
          have KK1 := hat.keepT OB.out
          have E1 := Lib.hid (show CellsAt w2 wr.heap.size 26 #[.int .i64 k1, .bool t1, .int .i64 i1, .string s1, .slice av1 l1.length c1, .slice kv1 ks1.length kc1] from ⟨KK1 _ _ _ _ EB.out.blk (by decide)⟩)
          have C1 := Lib.hid (show CellsAt w2 w.heap.size 26 #[.int .i64 k, .bool t, .int .i64 i, .string s, .slice (some ⟨b, off, none⟩) l.length c, .slice kv ks.length kc] from ⟨KK1 _ _ _ _ CB.out.blk (by decide)⟩)
          have O1 := Lib.hid (show w2.ownsRow w0.heap.size 5 1 v1 (n + (PJ ++ [44, 32]).length) (xs ++ Lib.byteCells (PJ ++ [44, 32])) from OwnB.own (by first | exact ho1 | simpa [Lib.strCells, Lib.byteCells] using ho1))
          have zz1 : w0.heap.size ≤ w2.heap.size := by have := B1.out.size; omega
          clear ho1 hg1 KK1 hat OB BB KB CB EB c0
          have y0 : w2.cell? ⟨wr.heap.size, 0, none⟩ = some (.int .i64 k1) := E1.out.cell rfl
          have y1 : w2.cell? ⟨wr.heap.size, 1, none⟩ = some (.bool t1) := E1.out.cell rfl
          have y2 : w2.cell? ⟨wr.heap.size, 2, none⟩ = some (.int .i64 i1) := E1.out.cell rfl
          have y3 : w2.cell? ⟨wr.heap.size, 3, none⟩ = some (.string s1) := E1.out.cell rfl
          have y4 : w2.cell? ⟨wr.heap.size, 4, none⟩ = some (.slice av1 l1.length c1) := E1.out.cell rfl
          have y5 : w2.cell? ⟨wr.heap.size, 5, none⟩ = some (.slice kv1 ks1.length kc1) := E1.out.cell rfl
          have d0 : w2.cell? ⟨w.heap.size, 0, none⟩ = some (.int .i64 k) := C1.out.cell rfl
          go_wp2_with fail
          go_fit (F.out _ _ _ _ (HBW.out.trans B1.out) O1.out (by simp; omega))
          rintro e w9 ⟨v9, rfl, h1, h2, h3⟩
          have H1 := Lib.hid (OwnB.own h1)
          have H2 := Lib.hid (B1.out.trans h2)
          have H3 := Lib.hid (K1.out.trans h3)
          have H4 := Lib.hid (show CellsAt w9 w.heap.size 26 #[.int .i64 k, .bool t, .int .i64 i, .string s, .slice (some ⟨b, off, none⟩) l.length c, .slice kv ks.length kc] from ⟨h3.keepT O1.out _ _ _ _ C1.out.blk (by decide)⟩)
          clear h1 h2 h3 O1 B1 K1 C1 E1 y0 y1 y2 y3 y4 y5 d0
          go_wp2_with fail
          refine ⟨⟨j + 1, by omega, by go_num, Lib.hid (by rw [HSUC.out]; simpa only [List.append_assoc, List.cons_append, List.nil_append] using H1.out), H4, H2, H3⟩, by simp [RowKit.intOf]; omega⟩
      · obtain rfl : j = l.length := by omega
        go_wp2_with fail
        go_ret
        exact ⟨_, rfl, HOJ.out, HB.out, HK.out⟩
end Go.Proofs.YtjehhldboopocaaGreatDoor
namespace Go.Proofs.YtjehhldboopocaaGreatDoor
open Go.RowKit Go.Lib
theorem litV_mk (m : Nat) : ∃ f, litV m = hdL f ∧ ∀ m', m = m' + 1 → f = litV m' := by
  cases m with
  | zero => exact ⟨fun _ => [], rfl, fun _ h => by omega⟩
  | succ m => exact ⟨litV m, rfl, fun m' h => by rw [show m = m' by omega]⟩
/-- The table of powers reads so. -/
def TabP (w : World) : Prop := Lib.TabIs Tryz.prog w "internal/strconv.uint64pow10" .u64 Lib.pow10Tab

set_option maxHeartbeats 8000000 in
set_option maxRecDepth 100000 in
theorem appLit_any (w0 : World) (hT : TabP w0) : ∀ m, AppP w0 m := by
  intro m
  induction m using Nat.strongRecOn with
  | ind m ih =>
    intro q V x n sv xs w hq hV hbw hown hlim
    obtain ⟨k, t, i, s, l, ks, av, c, kv, kc, rfl, rfl, g0, g1, g2, g3, g4, g5, g6, g7, g8, g9, hs, hl⟩ := hV
    obtain ⟨q, rfl⟩ : ∃ q', q = q' + 1 := by
      cases q with
      | zero => rw [errV_zero] at hq; cases hq
      | succ q => exact ⟨q, rfl⟩
    obtain ⟨⟨a1, a2, a3, a4, a5, a6, a7, a8, a9, a10⟩, a11⟩ := err_parts.1 hq
    obtain ⟨f, he, hm⟩ := litV_mk m
    have hbz := hbw.size
    obtain ⟨i0, hi, hz0, hz1, hz2⟩ := info_parts info8
    have EL := Lib.hid (fun (n' : Nat) (sv' : Value) (xs' : List Value) (w' : World) (hb : Below w0.heap.size w0 w') => appElems_list w0 m (fun m' h => ih m' (by omega)) q k t i s l ks av kv c kc f n' sv' xs' w' a11 (fun h => by have h := a9 h; unfold keysB at h; simp only [Bool.and_eq_true, decide_eq_true_eq] at h; exact h.1.1) (by omega) (by omega) g9 hs hl hm hb)
    have HTB : Lib.TabBelow Tryz.prog w0.heap.size w "internal/strconv.uint64pow10" .u64 Lib.pow10Tab := (tabBelow_of_tabIs hT).on hbw
    have HT := Lib.hid HTB
    have HBW := Lib.hid hbw
    rw [he] at hlim ⊢
    clear hq he hm ih hs hl a3 a10 a11 HTB hbw hT a9
    rcases (show k = 0 ∨ k = 1 ∨ k = 2 ∨ k = 3 ∨ k = 4 ∨ k = 5 by omega) with rfl | rfl | rfl | rfl | rfl | rfl
    · have E := Lib.hid (show hdL f (.mk 0 t i s l ks) = [110, 117, 108, 108] from rfl)
      rw [E.out] at hlim ⊢
      have hlim : n + 4 + 64 ≤ 140737488355328 := hlim
      go_enter Tryz.func103, Tryz.ntmps103
      go_wp2_with (at_builtin; refine wpList_str_at _ rfl _ _ 46 9 rfl w0.heap.size 5 i0 Tryz.underlying46 Tryz.underlying9 hi hz0 hz1 hz2 _ _ _ rfl (hown.alloc _) ⟨#[110, 117, 108, 108]⟩ rfl (show n + 4 ≤ maxLen by unfold maxLen; omega) (show n + 4 ≤ 140737488355328 by omega) (by simp; omega) ?_)
      intro v1 w1 ho1 hg1 hat
      go_wp2_with fail
      go_ret
      exact ⟨_, rfl, ho1, ((Below.refl _ w).alloc hbz _).grown hg1 (by simp; omega) (fun k hk => (hown.lt k hk).1), Frm.left ((Below.refl w.heap.size w).alloc (Nat.le_refl _) _) hat⟩
    · have E := Lib.hid (show hdL f (.mk 1 t i s l ks) = if t = true then [116, 114, 117, 101] else [102, 97, 108, 115, 101] from rfl)
      rw [E.out] at hlim ⊢
      have X := Lib.hid (appBoolS_any w0.heap.size n t sv xs _ (hown.alloc (.cells #[.int .i64 1, .bool t, .int .i64 i, .string s, .slice av l.length c, .slice kv ks.length kc] 26)) (by simp; omega) (by omega))
      have BA := Lib.hid ((Below.refl _ w).alloc hbz (.cells #[.int .i64 1, .bool t, .int .i64 i, .string s, .slice av l.length c, .slice kv ks.length kc] 26))
      have KA := Lib.hid ((Below.refl w.heap.size w).alloc (Nat.le_refl _) (.cells #[.int .i64 1, .bool t, .int .i64 i, .string s, .slice av l.length c, .slice kv ks.length kc] 26))
      clear hown EL
      cases t
      all_goals
        go_enter Tryz.func103, Tryz.ntmps103
        go_wp2_with fail
        go_fit X.out
        rintro e w1 ⟨v1, rfl, h1, h2, h3⟩
        have H1 := Lib.hid h1
        have H2 := Lib.hid (BA.out.trans h2)
        have H3 := Lib.hid (Frm.left KA.out h3)
        clear h1 h2 h3 X
        go_wp2_with fail
        go_ret
        exact ⟨_, rfl, H1.out, H2.out, H3.out⟩
    · have E := Lib.hid (show hdL f (.mk 2 t i s l ks) = Lib.itoa i from rfl)
      rw [E.out] at hlim ⊢
      have X := Lib.hid (appInt_any w0.heap.size n i g1.1 g1.2 sv xs _ (hown.alloc (.cells #[.int .i64 2, .bool t, .int .i64 i, .string s, .slice av l.length c, .slice kv ks.length kc] 26)) (by simp; omega) (by omega) (HT.out.on ((Below.refl _ w).alloc hbz (.cells #[.int .i64 2, .bool t, .int .i64 i, .string s, .slice av l.length c, .slice kv ks.length kc] 26))))
      have BA := Lib.hid ((Below.refl _ w).alloc hbz (.cells #[.int .i64 2, .bool t, .int .i64 i, .string s, .slice av l.length c, .slice kv ks.length kc] 26))
      have KA := Lib.hid ((Below.refl w.heap.size w).alloc (Nat.le_refl _) (.cells #[.int .i64 2, .bool t, .int .i64 i, .string s, .slice av l.length c, .slice kv ks.length kc] 26))
      clear hown EL
      go_enter Tryz.func103, Tryz.ntmps103
      go_wp2_with fail
      go_fit X.out
      rintro e w1 ⟨v1, rfl, h1, h2, h3⟩
      have H1 := Lib.hid h1
      have H2 := Lib.hid (BA.out.trans h2)
      have H3 := Lib.hid (Frm.left KA.out h3)
      clear h1 h2 h3 X
      go_wp2_with fail
      go_ret
      exact ⟨_, rfl, H1.out, H2.out, H3.out⟩
    · have E := Lib.hid (show hdL f (.mk 3 t i s l ks) = quoL s.data.toList from rfl)
      rw [E.out] at hlim ⊢
      have X := Lib.hid (appStr_any w0.heap.size n s g2 sv xs _ (hown.alloc (.cells #[.int .i64 3, .bool t, .int .i64 i, .string s, .slice av l.length c, .slice kv ks.length kc] 26)) (by simp; omega) (by omega))
      have BA := Lib.hid ((Below.refl _ w).alloc hbz (.cells #[.int .i64 3, .bool t, .int .i64 i, .string s, .slice av l.length c, .slice kv ks.length kc] 26))
      have KA := Lib.hid ((Below.refl w.heap.size w).alloc (Nat.le_refl _) (.cells #[.int .i64 3, .bool t, .int .i64 i, .string s, .slice av l.length c, .slice kv ks.length kc] 26))
      clear hown EL
      go_enter Tryz.func103, Tryz.ntmps103
      go_wp2_with fail
      go_fit X.out
      rintro e w1 ⟨v1, rfl, h1, h2, h3⟩
      have H1 := Lib.hid h1
      have H2 := Lib.hid (BA.out.trans h2)
      have H3 := Lib.hid (Frm.left KA.out h3)
      clear h1 h2 h3 X
      go_wp2_with fail
      go_ret
      exact ⟨_, rfl, H1.out, H2.out, H3.out⟩
    · have E := Lib.hid (show hdL f (.mk 4 t i s l ks) = 91 :: (itemsL f false l ks l.length ++ [93]) from rfl)
      rw [E.out] at hlim ⊢
      have hlen : (91 :: (itemsL f false l ks l.length ++ [93])).length = (itemsL f false l ks l.length).length + 2 := by simp
      rw [hlen] at hlim
      obtain ⟨IT, hIT⟩ : ∃ IT, IT = itemsL f false l ks l.length := ⟨_, rfl⟩
      simp only [show ((4 : Int) == 5) = false from rfl] at EL
      rw [← hIT] at hlim hlen EL ⊢
      clear hIT hlen E HT
      have HO := Lib.hid hown
      have C0 := Lib.hid (CellsAt.new w 26 #[.int .i64 4, .bool t, .int .i64 i, .string s, .slice av l.length c, .slice kv ks.length kc])
      have NE := Lib.hid (show ∀ b, w.heap.size ≤ b → some b ≠ sv.ownBlock from fun b hb h => by have := (hown.lt b h.symm).2; omega)
      clear hown
      go_enter Tryz.func103, Tryz.ntmps103
      go_wp2_with fail
      have HOa : ∀ o, (((w.alloc (.cells #[.int .i64 4, .bool t, .int .i64 i, .string s, .slice av l.length c, .slice kv ks.length kc] 26)).drew).alloc o).ownsRow w0.heap.size 5 1 sv n xs := fun o => (HO.out.alloc _).drew.alloc o
      have HOb : ∀ o o', ((((w.alloc (.cells #[.int .i64 4, .bool t, .int .i64 i, .string s, .slice av l.length c, .slice kv ks.length kc] 26)).drew).alloc o).alloc o').ownsRow w0.heap.size 5 1 sv n xs := fun o o' => ((HO.out.alloc _).drew.alloc o).alloc o'
      have hsA : ∀ o, w0.heap.size ≤ (((w.alloc (.cells #[.int .i64 4, .bool t, .int .i64 i, .string s, .slice av l.length c, .slice kv ks.length kc] 26)).drew).alloc o).heap.size := fun o => by simp; omega
      have hsB : ∀ o o', w0.heap.size ≤ ((((w.alloc (.cells #[.int .i64 4, .bool t, .int .i64 i, .string s, .slice av l.length c, .slice kv ks.length kc] 26)).drew).alloc o).alloc o').heap.size := fun o o' => by simp; omega
      have NA1 : ∀ j u, [Value.int .u8 91][j]? = some u → (((w.alloc (.cells #[.int .i64 4, .bool t, .int .i64 i, .string s, .slice av l.length c, .slice kv ks.length kc] 26)).drew).alloc (.cells #[.int .u8 91] 5)).cell? ((⟨w.heap.size + 1, 0, none⟩ : Addr).add j) = some u := World.news_of_block (by have h := heap_alloc_new ((w.alloc (.cells #[.int .i64 4, .bool t, .int .i64 i, .string s, .slice av l.length c, .slice kv ks.length kc] 26)).drew) (.cells #[.int .u8 91] 5); simpa using h)
      have NA2 : ∀ j u, [Value.int .u8 91][j]? = some u → ((((w.alloc (.cells #[.int .i64 4, .bool t, .int .i64 i, .string s, .slice av l.length c, .slice kv ks.length kc] 26)).drew).alloc (.cells #[.int .u8 93] 5)).alloc (.cells #[.int .u8 91] 5)).cell? ((⟨w.heap.size + 1 + 1, 0, none⟩ : Addr).add j) = some u := World.news_of_block (by have h := heap_alloc_new (((w.alloc (.cells #[.int .i64 4, .bool t, .int .i64 i, .string s, .slice av l.length c, .slice kv ks.length kc] 26)).drew).alloc (.cells #[.int .u8 93] 5)) (.cells #[.int .u8 91] 5); simpa using h)
      have NA3 : ∀ j u, [Value.int .u8 91][j]? = some u → ((((w.alloc (.cells #[.int .i64 4, .bool t, .int .i64 i, .string s, .slice av l.length c, .slice kv ks.length kc] 26)).drew).alloc (.cells #[.int .u8 91] 5)).alloc (.cells #[.int .u8 93] 5)).cell? ((⟨w.heap.size + 1, 0, none⟩ : Addr).add j) = some u := World.news_of_block (by have h := ((CellsAt.new ((w.alloc (.cells #[.int .i64 4, .bool t, .int .i64 i, .string s, .slice av l.length c, .slice kv ks.length kc] 26)).drew) 5 #[.int .u8 91]).alloc (.cells #[.int .u8 93] 5)).blk; simpa using h)
      have ON1 : ∀ u ∈ [Value.int .u8 91], u.oneCell' = true := by intro u hu; simp at hu; subst hu; rfl
      have ON2 : ∀ u ∈ [Value.int .u8 93], u.oneCell' = true := by intro u hu; simp at hu; subst hu; rfl
      have hb1 : n + 1 ≤ maxLen := by unfold maxLen; omega
      have hb2 : (n + 1) * 1 ≤ 140737488355328 := by omega
      have hb3 : n + [(91 : UInt8)].length + IT.length + 64 ≤ 140737488355328 := by simp; omega
      have hb4 : n + ([(91 : UInt8)] ++ IT).length + 1 ≤ maxLen := by unfold maxLen; simp; omega
      have hb5 : (n + ([(91 : UInt8)] ++ IT).length + 1) * 1 ≤ 140737488355328 := by simp; omega
      have P1 := Lib.hid (show ∀ X1 g1 cap1 w1, Below w.heap.size w X1 → Below w0.heap.size w X1 → w.heap.size < X1.heap.size → CellsAt X1 w.heap.size 26 #[.int .i64 4, .bool t, .int .i64 i, .string s, .slice av l.length c, .slice kv ks.length kc] → w1.ownsRow w0.heap.size 5 1 (.slice (some ⟨g1, 0, none⟩) (n + 1) cap1) (n + 1) (xs ++ [.int .u8 91]) → X1.grownBy w1 sv.ownBlock → (sv.ownBlock = some g1 ∨ g1 = X1.heap.size) →
          Hid (w1.ownsRow w0.heap.size 5 1 (.slice (some ⟨g1, 0, none⟩) (n + 1) cap1) (n + [(91 : UInt8)].length) (xs ++ Lib.byteCells [(91 : UInt8)])) ∧ Hid (Frm sv (.slice (some ⟨g1, 0, none⟩) (n + 1) cap1) w w1) ∧ Hid (Below w0.heap.size w w1) ∧ CellsAt w1 w.heap.size 26 #[.int .i64 4, .bool t, .int .i64 i, .string s, .slice av l.length c, .slice kv ks.length kc] ∧ w0.heap.size ≤ w1.heap.size from fun X1 g1 cap1 w1 b1 b2 hlt hc ho hg hl => by
        have hat : Frm sv (.slice (some ⟨g1, 0, none⟩) (n + 1) cap1) X1 w1 := Frm.of_grown hg (hl.imp (fun h => h.symm) (fun h => ⟨_, rfl, Nat.le_of_eq h.symm⟩))
        have BW : Below w0.heap.size w w1 := b2.grown hg (by have := b2.size; omega) (fun k hk => (HO.out.lt k hk).1)
        exact ⟨Lib.hid ho, Lib.hid (Frm.left b1 hat), Lib.hid BW, hc.of_block (hat.block _ hlt (NE.out _ (Nat.le_refl _))), by have := BW.size; omega⟩)
      have BXa : ∀ o, Below w.heap.size w (((w.alloc (.cells #[.int .i64 4, .bool t, .int .i64 i, .string s, .slice av l.length c, .slice kv ks.length kc] 26)).drew).alloc o) := fun o => ((Below.refl w.heap.size w).alloc (Nat.le_refl _) _).drew.alloc (by simp) o
      have BXb : ∀ o o', Below w.heap.size w ((((w.alloc (.cells #[.int .i64 4, .bool t, .int .i64 i, .string s, .slice av l.length c, .slice kv ks.length kc] 26)).drew).alloc o).alloc o') := fun o o' => (((Below.refl w.heap.size w).alloc (Nat.le_refl _) _).drew.alloc (by simp) o).alloc (by simp; omega) o'
      have BYa : ∀ o, Below w0.heap.size w (((w.alloc (.cells #[.int .i64 4, .bool t, .int .i64 i, .string s, .slice av l.length c, .slice kv ks.length kc] 26)).drew).alloc o) := fun o => ((Below.refl w0.heap.size w).alloc hbz _).drew.alloc (by simp; omega) o
      have BYb : ∀ o o', Below w0.heap.size w ((((w.alloc (.cells #[.int .i64 4, .bool t, .int .i64 i, .string s, .slice av l.length c, .slice kv ks.length kc] 26)).drew).alloc o).alloc o') := fun o o' => (((Below.refl w0.heap.size w).alloc hbz _).drew.alloc (by simp; omega) o).alloc (by simp; omega) o'
      have lXa : ∀ o, w.heap.size < (((w.alloc (.cells #[.int .i64 4, .bool t, .int .i64 i, .string s, .slice av l.length c, .slice kv ks.length kc] 26)).drew).alloc o).heap.size := fun o => by simp; omega
      have lXb : ∀ o o', w.heap.size < ((((w.alloc (.cells #[.int .i64 4, .bool t, .int .i64 i, .string s, .slice av l.length c, .slice kv ks.length kc] 26)).drew).alloc o).alloc o').heap.size := fun o o' => by simp; omega
      have cXa : ∀ o, CellsAt (((w.alloc (.cells #[.int .i64 4, .bool t, .int .i64 i, .string s, .slice av l.length c, .slice kv ks.length kc] 26)).drew).alloc o) w.heap.size 26 #[.int .i64 4, .bool t, .int .i64 i, .string s, .slice av l.length c, .slice kv ks.length kc] := fun o => C0.out.drew.alloc o
      have cXb : ∀ o o', CellsAt ((((w.alloc (.cells #[.int .i64 4, .bool t, .int .i64 i, .string s, .slice av l.length c, .slice kv ks.length kc] 26)).drew).alloc o).alloc o') w.heap.size 26 #[.int .i64 4, .bool t, .int .i64 i, .string s, .slice av l.length c, .slice kv ks.length kc] := fun o o' => (C0.out.drew.alloc o).alloc o'
      have NBb := Lib.hid (show ∀ g1 cap1 w1, ((((w.alloc (.cells #[.int .i64 4, .bool t, .int .i64 i, .string s, .slice av l.length c, .slice kv ks.length kc] 26)).drew).alloc (.cells #[.int .u8 93] 5)).alloc (.cells #[.int .u8 91] 5)).grownBy w1 sv.ownBlock → (sv.ownBlock = some g1 ∨ g1 = ((((w.alloc (.cells #[.int .i64 4, .bool t, .int .i64 i, .string s, .slice av l.length c, .slice kv ks.length kc] 26)).drew).alloc (.cells #[.int .u8 93] 5)).alloc (.cells #[.int .u8 91] 5)).heap.size) → CellsAt w1 (w.heap.size + 1) 5 #[.int .u8 93] ∧ some (w.heap.size + 1) ≠ (Value.slice (some ⟨g1, 0, none⟩) (n + 1) cap1).ownBlock from fun g1 cap1 w1 hg hl => by
        have h0 : CellsAt ((((w.alloc (.cells #[.int .i64 4, .bool t, .int .i64 i, .string s, .slice av l.length c, .slice kv ks.length kc] 26)).drew).alloc (.cells #[.int .u8 93] 5)).alloc (.cells #[.int .u8 91] 5)) (w.heap.size + 1) 5 #[.int .u8 93] := by have h := ((CellsAt.new ((w.alloc (.cells #[.int .i64 4, .bool t, .int .i64 i, .string s, .slice av l.length c, .slice kv ks.length kc] 26)).drew) 5 #[.int .u8 93]).alloc (.cells #[.int .u8 91] 5)); simpa using h
        refine ⟨h0.of_block (hg.block _ h0.lt (NE.out _ (by omega))), ?_⟩
        intro h
        have h : w.heap.size + 1 = g1 := Option.some.inj h
        rcases hl with e | e
        · exact NE.out (w.heap.size + 1) (by omega) (by rw [e, h])
        · have := h0.lt; omega)
      have NBc := Lib.hid (show ∀ g1 cap1 w1, ((((w.alloc (.cells #[.int .i64 4, .bool t, .int .i64 i, .string s, .slice av l.length c, .slice kv ks.length kc] 26)).drew).alloc (.cells #[.int .u8 91] 5)).alloc (.cells #[.int .u8 93] 5)).grownBy w1 sv.ownBlock → (sv.ownBlock = some g1 ∨ g1 = ((((w.alloc (.cells #[.int .i64 4, .bool t, .int .i64 i, .string s, .slice av l.length c, .slice kv ks.length kc] 26)).drew).alloc (.cells #[.int .u8 91] 5)).alloc (.cells #[.int .u8 93] 5)).heap.size) → CellsAt w1 (w.heap.size + 1 + 1) 5 #[.int .u8 93] ∧ some (w.heap.size + 1 + 1) ≠ (Value.slice (some ⟨g1, 0, none⟩) (n + 1) cap1).ownBlock from fun g1 cap1 w1 hg hl => by
        have h0 : CellsAt ((((w.alloc (.cells #[.int .i64 4, .bool t, .int .i64 i, .string s, .slice av l.length c, .slice kv ks.length kc] 26)).drew).alloc (.cells #[.int .u8 91] 5)).alloc (.cells #[.int .u8 93] 5)) (w.heap.size + 1 + 1) 5 #[.int .u8 93] := by have h := (CellsAt.new (((w.alloc (.cells #[.int .i64 4, .bool t, .int .i64 i, .string s, .slice av l.length c, .slice kv ks.length kc] 26)).drew).alloc (.cells #[.int .u8 91] 5)) 5 #[.int .u8 93]); simpa using h
        refine ⟨h0.of_block (hg.block _ h0.lt (NE.out _ (by omega))), ?_⟩
        intro h
        have h : w.heap.size + 1 + 1 = g1 := Option.some.inj h
        rcases hl with e | e
        · exact NE.out (w.heap.size + 1 + 1) (by omega) (by rw [e, h])
        · have := h0.lt; omega)
      have a0 : ((w.alloc (.cells #[.int .i64 4, .bool t, .int .i64 i, .string s, .slice av l.length c, .slice kv ks.length kc] 26)).drew).cell? ⟨w.heap.size, 0, none⟩ = some (.int .i64 4) := C0.out.drew.cell rfl
      have b0 : ∀ o, (((w.alloc (.cells #[.int .i64 4, .bool t, .int .i64 i, .string s, .slice av l.length c, .slice kv ks.length kc] 26)).drew).alloc o).cell? ⟨w.heap.size, 0, none⟩ = some (.int .i64 4) := fun o => (C0.out.drew.alloc o).cell rfl
      have d0 : ∀ o o', ((((w.alloc (.cells #[.int .i64 4, .bool t, .int .i64 i, .string s, .slice av l.length c, .slice kv ks.length kc] 26)).drew).alloc o).alloc o').cell? ⟨w.heap.size, 0, none⟩ = some (.int .i64 4) := fun o o' => ((C0.out.drew.alloc o).alloc o').cell rfl
      have a1 : ((w.alloc (.cells #[.int .i64 4, .bool t, .int .i64 i, .string s, .slice av l.length c, .slice kv ks.length kc] 26)).drew).cell? ⟨w.heap.size, 1, none⟩ = some (.bool t) := C0.out.drew.cell rfl
      have b1 : ∀ o, (((w.alloc (.cells #[.int .i64 4, .bool t, .int .i64 i, .string s, .slice av l.length c, .slice kv ks.length kc] 26)).drew).alloc o).cell? ⟨w.heap.size, 1, none⟩ = some (.bool t) := fun o => (C0.out.drew.alloc o).cell rfl
      have d1 : ∀ o o', ((((w.alloc (.cells #[.int .i64 4, .bool t, .int .i64 i, .string s, .slice av l.length c, .slice kv ks.length kc] 26)).drew).alloc o).alloc o').cell? ⟨w.heap.size, 1, none⟩ = some (.bool t) := fun o o' => ((C0.out.drew.alloc o).alloc o').cell rfl
      have a2 : ((w.alloc (.cells #[.int .i64 4, .bool t, .int .i64 i, .string s, .slice av l.length c, .slice kv ks.length kc] 26)).drew).cell? ⟨w.heap.size, 2, none⟩ = some (.int .i64 i) := C0.out.drew.cell rfl
      have b2 : ∀ o, (((w.alloc (.cells #[.int .i64 4, .bool t, .int .i64 i, .string s, .slice av l.length c, .slice kv ks.length kc] 26)).drew).alloc o).cell? ⟨w.heap.size, 2, none⟩ = some (.int .i64 i) := fun o => (C0.out.drew.alloc o).cell rfl
      have d2 : ∀ o o', ((((w.alloc (.cells #[.int .i64 4, .bool t, .int .i64 i, .string s, .slice av l.length c, .slice kv ks.length kc] 26)).drew).alloc o).alloc o').cell? ⟨w.heap.size, 2, none⟩ = some (.int .i64 i) := fun o o' => ((C0.out.drew.alloc o).alloc o').cell rfl
      have a3 : ((w.alloc (.cells #[.int .i64 4, .bool t, .int .i64 i, .string s, .slice av l.length c, .slice kv ks.length kc] 26)).drew).cell? ⟨w.heap.size, 3, none⟩ = some (.string s) := C0.out.drew.cell rfl
      have b3 : ∀ o, (((w.alloc (.cells #[.int .i64 4, .bool t, .int .i64 i, .string s, .slice av l.length c, .slice kv ks.length kc] 26)).drew).alloc o).cell? ⟨w.heap.size, 3, none⟩ = some (.string s) := fun o => (C0.out.drew.alloc o).cell rfl
      have d3 : ∀ o o', ((((w.alloc (.cells #[.int .i64 4, .bool t, .int .i64 i, .string s, .slice av l.length c, .slice kv ks.length kc] 26)).drew).alloc o).alloc o').cell? ⟨w.heap.size, 3, none⟩ = some (.string s) := fun o o' => ((C0.out.drew.alloc o).alloc o').cell rfl
      have a4 : ((w.alloc (.cells #[.int .i64 4, .bool t, .int .i64 i, .string s, .slice av l.length c, .slice kv ks.length kc] 26)).drew).cell? ⟨w.heap.size, 4, none⟩ = some (.slice av l.length c) := C0.out.drew.cell rfl
      have b4 : ∀ o, (((w.alloc (.cells #[.int .i64 4, .bool t, .int .i64 i, .string s, .slice av l.length c, .slice kv ks.length kc] 26)).drew).alloc o).cell? ⟨w.heap.size, 4, none⟩ = some (.slice av l.length c) := fun o => (C0.out.drew.alloc o).cell rfl
      have d4 : ∀ o o', ((((w.alloc (.cells #[.int .i64 4, .bool t, .int .i64 i, .string s, .slice av l.length c, .slice kv ks.length kc] 26)).drew).alloc o).alloc o').cell? ⟨w.heap.size, 4, none⟩ = some (.slice av l.length c) := fun o o' => ((C0.out.drew.alloc o).alloc o').cell rfl
      have a5 : ((w.alloc (.cells #[.int .i64 4, .bool t, .int .i64 i, .string s, .slice av l.length c, .slice kv ks.length kc] 26)).drew).cell? ⟨w.heap.size, 5, none⟩ = some (.slice kv ks.length kc) := C0.out.drew.cell rfl
      have b5 : ∀ o, (((w.alloc (.cells #[.int .i64 4, .bool t, .int .i64 i, .string s, .slice av l.length c, .slice kv ks.length kc] 26)).drew).alloc o).cell? ⟨w.heap.size, 5, none⟩ = some (.slice kv ks.length kc) := fun o => (C0.out.drew.alloc o).cell rfl
      have d5 : ∀ o o', ((((w.alloc (.cells #[.int .i64 4, .bool t, .int .i64 i, .string s, .slice av l.length c, .slice kv ks.length kc] 26)).drew).alloc o).alloc o').cell? ⟨w.heap.size, 5, none⟩ = some (.slice kv ks.length kc) := fun o o' => ((C0.out.drew.alloc o).alloc o').cell rfl
      go_region_law (first | (refine step_append_lies _ rfl (.tmp 31) (.tmp 32) 46 rfl w0.heap.size 5 i0 (.int .u8 0) 1 1 Tryz.underlying46 hi hz0 hz1 hz2 rfl (by decide) sv n xs rfl (by first | exact HOa _ | exact HOb _ _) _ 1 1 [.int .u8 91] rfl rfl (by first | exact NA1 | exact NA2 | exact NA3) ON1 (by decide) hb1 hb2 (by first | exact hsA _ | exact hsB _ _) _ rfl ?_; intro g1 cap1 w1 ho1 hg1 hl1 hs1; obtain ⟨O1, FW, BW, CE, zz1⟩ := P1.out _ g1 cap1 w1 (by first | exact BXa _ | exact BXb _ _) (by first | exact BYa _ | exact BYb _ _) (by first | exact lXa _ | exact lXb _ _) (by first | exact cXa _ | exact cXb _ _) ho1 hg1 hl1; have y0 : w1.cell? ⟨w.heap.size, 0, none⟩ = some (.int .i64 4) := CE.cell rfl; have z0 : ∀ o, (w1.alloc o).cell? ⟨w.heap.size, 0, none⟩ = some (.int .i64 4) := fun o => (CE.alloc o).cell rfl; have y1 : w1.cell? ⟨w.heap.size, 1, none⟩ = some (.bool t) := CE.cell rfl; have z1 : ∀ o, (w1.alloc o).cell? ⟨w.heap.size, 1, none⟩ = some (.bool t) := fun o => (CE.alloc o).cell rfl; have y2 : w1.cell? ⟨w.heap.size, 2, none⟩ = some (.int .i64 i) := CE.cell rfl; have z2 : ∀ o, (w1.alloc o).cell? ⟨w.heap.size, 2, none⟩ = some (.int .i64 i) := fun o => (CE.alloc o).cell rfl; have y3 : w1.cell? ⟨w.heap.size, 3, none⟩ = some (.string s) := CE.cell rfl; have z3 : ∀ o, (w1.alloc o).cell? ⟨w.heap.size, 3, none⟩ = some (.string s) := fun o => (CE.alloc o).cell rfl; have y4 : w1.cell? ⟨w.heap.size, 4, none⟩ = some (.slice av l.length c) := CE.cell rfl; have z4 : ∀ o, (w1.alloc o).cell? ⟨w.heap.size, 4, none⟩ = some (.slice av l.length c) := fun o => (CE.alloc o).cell rfl; have y5 : w1.cell? ⟨w.heap.size, 5, none⟩ = some (.slice kv ks.length kc) := CE.cell rfl; have z5 : ∀ o, (w1.alloc o).cell? ⟨w.heap.size, 5, none⟩ = some (.slice kv ks.length kc) := fun o => (CE.alloc o).cell rfl; (first | (have nb := NBb.out g1 cap1 w1 hg1 hl1) | (have nb := NBc.out g1 cap1 w1 hg1 hl1) | skip); clear ho1 hg1 hl1 hs1) | (refine step_append_lies _ rfl (.tmp 35) (.tmp 36) 46 rfl w0.heap.size 5 i0 (.int .u8 0) 1 1 Tryz.underlying46 hi hz0 hz1 hz2 rfl (by decide) v2 (n + ([(91 : UInt8)] ++ IT).length) (xs ++ Lib.byteCells ([(91 : UInt8)] ++ IT)) rfl (by first | exact O2.out | exact O2.out.alloc _) _ 1 1 [.int .u8 93] rfl rfl (by first | exact World.news_of_block nw.blk | exact World.news_of_block (heap_alloc_new w2 _)) ON2 (by decide) hb4 hb5 (by first | exact zz2 | exact zz3 _) _ rfl ?_; intro g3 cap3 w3 ho3 hg3 hl3 hs3; have O3 := Lib.hid ho3; have B3 := Lib.hid (show Below w0.heap.size w w3 from by first | exact B2.out.grown hg3 zz2 (fun k hk => (O2.out.lt k hk).1) | exact (B2.out.alloc zz2 _).grown hg3 (zz3 _) (fun k hk => (O2.out.lt k hk).1)); have F3 := Lib.hid (show Frm sv (.slice (some ⟨g3, 0, none⟩) (n + ([(91 : UInt8)] ++ IT).length + 1) cap3) w w3 from by first | exact F2.out.trans (Frm.of_grown hg3 (hl3.imp (fun h => h.symm) (fun h => ⟨_, rfl, Nat.le_of_eq h.symm⟩))) | exact (F2.out.right ((Below.refl w2.heap.size w2).alloc (Nat.le_refl _) _)).trans (Frm.of_grown hg3 (hl3.imp (fun h => h.symm) (fun h => ⟨_, rfl, Nat.le_of_eq h.symm⟩)))); clear ho3 hg3 hl3 hs3) | (go_simp; go_at_call 144; (first | (go_fit (EL.out _ _ _ w1 (HBW.out.trans BW.out) O1.out hb3); rintro e w2 ⟨v2, rfl, h1, h2, h3⟩; have B2 := Lib.hid (BW.out.trans h2); have F2 := Lib.hid (FW.out.trans h3); (first | (have nw := nb.1.of_block (h3.block _ nb.1.lt nb.2)) | skip)) | (go_fit (EL.out _ _ _ (w1.alloc (.cells #[.int .u8 93] 5)) (HBW.out.trans (BW.out.alloc zz1 (.cells #[.int .u8 93] 5))) (O1.out.alloc (.cells #[.int .u8 93] 5)) hb3); rintro e w2 ⟨v2, rfl, h1, h2, h3⟩; have B2 := Lib.hid ((BW.out.alloc zz1 (.cells #[.int .u8 93] 5)).trans h2); have F2 := Lib.hid ((FW.out.right ((Below.refl w1.heap.size w1).alloc (Nat.le_refl _) (.cells #[.int .u8 93] 5))).trans h3); have nw := (CellsAt.new w1 5 #[.int .u8 93]).of_block (h3.block _ (by simp) (fun h => Nat.lt_irrefl _ (O1.out.lt _ h.symm).2)))); have zz2 : w0.heap.size ≤ w2.heap.size := (by have := B2.out.size; omega); have zz3 : ∀ o, w0.heap.size ≤ (w2.alloc o).heap.size := fun o => Nat.le_trans zz2 (by simp); have O2 := Lib.hid (OwnB.own h1); clear h1 h2 h3))
      all_goals
        go_wp2_with fail
        go_ret
        refine ⟨_, rfl, ?_, B3.out, F3.out⟩
        have h := OwnB.own (b := [(93 : UInt8)]) O3.out
        have e : [(91 : UInt8)] ++ IT ++ [(93 : UInt8)] = 91 :: (IT ++ [93]) := rfl
        rw [e] at h
        exact h
    · have E := Lib.hid (show hdL f (.mk 5 t i s l ks) = 123 :: (itemsL f true l ks l.length ++ [125]) from rfl)
      rw [E.out] at hlim ⊢
      have hlen : (123 :: (itemsL f true l ks l.length ++ [125])).length = (itemsL f true l ks l.length).length + 2 := by simp
      rw [hlen] at hlim
      obtain ⟨IT, hIT⟩ : ∃ IT, IT = itemsL f true l ks l.length := ⟨_, rfl⟩
      simp only [show ((5 : Int) == 5) = true from rfl] at EL
      rw [← hIT] at hlim hlen EL ⊢
      clear hIT hlen E HT
      have HO := Lib.hid hown
      have C0 := Lib.hid (CellsAt.new w 26 #[.int .i64 5, .bool t, .int .i64 i, .string s, .slice av l.length c, .slice kv ks.length kc])
      have NE := Lib.hid (show ∀ b, w.heap.size ≤ b → some b ≠ sv.ownBlock from fun b hb h => by have := (hown.lt b h.symm).2; omega)
      clear hown
      go_enter Tryz.func103, Tryz.ntmps103
      go_wp2_with fail
      have HOa : ∀ o, (((w.alloc (.cells #[.int .i64 5, .bool t, .int .i64 i, .string s, .slice av l.length c, .slice kv ks.length kc] 26)).drew).alloc o).ownsRow w0.heap.size 5 1 sv n xs := fun o => (HO.out.alloc _).drew.alloc o
      have HOb : ∀ o o', ((((w.alloc (.cells #[.int .i64 5, .bool t, .int .i64 i, .string s, .slice av l.length c, .slice kv ks.length kc] 26)).drew).alloc o).alloc o').ownsRow w0.heap.size 5 1 sv n xs := fun o o' => ((HO.out.alloc _).drew.alloc o).alloc o'
      have hsA : ∀ o, w0.heap.size ≤ (((w.alloc (.cells #[.int .i64 5, .bool t, .int .i64 i, .string s, .slice av l.length c, .slice kv ks.length kc] 26)).drew).alloc o).heap.size := fun o => by simp; omega
      have hsB : ∀ o o', w0.heap.size ≤ ((((w.alloc (.cells #[.int .i64 5, .bool t, .int .i64 i, .string s, .slice av l.length c, .slice kv ks.length kc] 26)).drew).alloc o).alloc o').heap.size := fun o o' => by simp; omega
      have NA1 : ∀ j u, [Value.int .u8 123][j]? = some u → (((w.alloc (.cells #[.int .i64 5, .bool t, .int .i64 i, .string s, .slice av l.length c, .slice kv ks.length kc] 26)).drew).alloc (.cells #[.int .u8 123] 5)).cell? ((⟨w.heap.size + 1, 0, none⟩ : Addr).add j) = some u := World.news_of_block (by have h := heap_alloc_new ((w.alloc (.cells #[.int .i64 5, .bool t, .int .i64 i, .string s, .slice av l.length c, .slice kv ks.length kc] 26)).drew) (.cells #[.int .u8 123] 5); simpa using h)
      have NA2 : ∀ j u, [Value.int .u8 123][j]? = some u → ((((w.alloc (.cells #[.int .i64 5, .bool t, .int .i64 i, .string s, .slice av l.length c, .slice kv ks.length kc] 26)).drew).alloc (.cells #[.int .u8 125] 5)).alloc (.cells #[.int .u8 123] 5)).cell? ((⟨w.heap.size + 1 + 1, 0, none⟩ : Addr).add j) = some u := World.news_of_block (by have h := heap_alloc_new (((w.alloc (.cells #[.int .i64 5, .bool t, .int .i64 i, .string s, .slice av l.length c, .slice kv ks.length kc] 26)).drew).alloc (.cells #[.int .u8 125] 5)) (.cells #[.int .u8 123] 5); simpa using h)
      have NA3 : ∀ j u, [Value.int .u8 123][j]? = some u → ((((w.alloc (.cells #[.int .i64 5, .bool t, .int .i64 i, .string s, .slice av l.length c, .slice kv ks.length kc] 26)).drew).alloc (.cells #[.int .u8 123] 5)).alloc (.cells #[.int .u8 125] 5)).cell? ((⟨w.heap.size + 1, 0, none⟩ : Addr).add j) = some u := World.news_of_block (by have h := ((CellsAt.new ((w.alloc (.cells #[.int .i64 5, .bool t, .int .i64 i, .string s, .slice av l.length c, .slice kv ks.length kc] 26)).drew) 5 #[.int .u8 123]).alloc (.cells #[.int .u8 125] 5)).blk; simpa using h)
      have ON1 : ∀ u ∈ [Value.int .u8 123], u.oneCell' = true := by intro u hu; simp at hu; subst hu; rfl
      have ON2 : ∀ u ∈ [Value.int .u8 125], u.oneCell' = true := by intro u hu; simp at hu; subst hu; rfl
      have hb1 : n + 1 ≤ maxLen := by unfold maxLen; omega
      have hb2 : (n + 1) * 1 ≤ 140737488355328 := by omega
      have hb3 : n + [(123 : UInt8)].length + IT.length + 64 ≤ 140737488355328 := by simp; omega
      have hb4 : n + ([(123 : UInt8)] ++ IT).length + 1 ≤ maxLen := by unfold maxLen; simp; omega
      have hb5 : (n + ([(123 : UInt8)] ++ IT).length + 1) * 1 ≤ 140737488355328 := by simp; omega
      have P1 := Lib.hid (show ∀ X1 g1 cap1 w1, Below w.heap.size w X1 → Below w0.heap.size w X1 → w.heap.size < X1.heap.size → CellsAt X1 w.heap.size 26 #[.int .i64 5, .bool t, .int .i64 i, .string s, .slice av l.length c, .slice kv ks.length kc] → w1.ownsRow w0.heap.size 5 1 (.slice (some ⟨g1, 0, none⟩) (n + 1) cap1) (n + 1) (xs ++ [.int .u8 123]) → X1.grownBy w1 sv.ownBlock → (sv.ownBlock = some g1 ∨ g1 = X1.heap.size) →
          Hid (w1.ownsRow w0.heap.size 5 1 (.slice (some ⟨g1, 0, none⟩) (n + 1) cap1) (n + [(123 : UInt8)].length) (xs ++ Lib.byteCells [(123 : UInt8)])) ∧ Hid (Frm sv (.slice (some ⟨g1, 0, none⟩) (n + 1) cap1) w w1) ∧ Hid (Below w0.heap.size w w1) ∧ CellsAt w1 w.heap.size 26 #[.int .i64 5, .bool t, .int .i64 i, .string s, .slice av l.length c, .slice kv ks.length kc] ∧ w0.heap.size ≤ w1.heap.size from fun X1 g1 cap1 w1 b1 b2 hlt hc ho hg hl => by
        have hat : Frm sv (.slice (some ⟨g1, 0, none⟩) (n + 1) cap1) X1 w1 := Frm.of_grown hg (hl.imp (fun h => h.symm) (fun h => ⟨_, rfl, Nat.le_of_eq h.symm⟩))
        have BW : Below w0.heap.size w w1 := b2.grown hg (by have := b2.size; omega) (fun k hk => (HO.out.lt k hk).1)
        exact ⟨Lib.hid ho, Lib.hid (Frm.left b1 hat), Lib.hid BW, hc.of_block (hat.block _ hlt (NE.out _ (Nat.le_refl _))), by have := BW.size; omega⟩)
      have BXa : ∀ o, Below w.heap.size w (((w.alloc (.cells #[.int .i64 5, .bool t, .int .i64 i, .string s, .slice av l.length c, .slice kv ks.length kc] 26)).drew).alloc o) := fun o => ((Below.refl w.heap.size w).alloc (Nat.le_refl _) _).drew.alloc (by simp) o
      have BXb : ∀ o o', Below w.heap.size w ((((w.alloc (.cells #[.int .i64 5, .bool t, .int .i64 i, .string s, .slice av l.length c, .slice kv ks.length kc] 26)).drew).alloc o).alloc o') := fun o o' => (((Below.refl w.heap.size w).alloc (Nat.le_refl _) _).drew.alloc (by simp) o).alloc (by simp; omega) o'
      have BYa : ∀ o, Below w0.heap.size w (((w.alloc (.cells #[.int .i64 5, .bool t, .int .i64 i, .string s, .slice av l.length c, .slice kv ks.length kc] 26)).drew).alloc o) := fun o => ((Below.refl w0.heap.size w).alloc hbz _).drew.alloc (by simp; omega) o
      have BYb : ∀ o o', Below w0.heap.size w ((((w.alloc (.cells #[.int .i64 5, .bool t, .int .i64 i, .string s, .slice av l.length c, .slice kv ks.length kc] 26)).drew).alloc o).alloc o') := fun o o' => (((Below.refl w0.heap.size w).alloc hbz _).drew.alloc (by simp; omega) o).alloc (by simp; omega) o'
      have lXa : ∀ o, w.heap.size < (((w.alloc (.cells #[.int .i64 5, .bool t, .int .i64 i, .string s, .slice av l.length c, .slice kv ks.length kc] 26)).drew).alloc o).heap.size := fun o => by simp; omega
      have lXb : ∀ o o', w.heap.size < ((((w.alloc (.cells #[.int .i64 5, .bool t, .int .i64 i, .string s, .slice av l.length c, .slice kv ks.length kc] 26)).drew).alloc o).alloc o').heap.size := fun o o' => by simp; omega
      have cXa : ∀ o, CellsAt (((w.alloc (.cells #[.int .i64 5, .bool t, .int .i64 i, .string s, .slice av l.length c, .slice kv ks.length kc] 26)).drew).alloc o) w.heap.size 26 #[.int .i64 5, .bool t, .int .i64 i, .string s, .slice av l.length c, .slice kv ks.length kc] := fun o => C0.out.drew.alloc o
      have cXb : ∀ o o', CellsAt ((((w.alloc (.cells #[.int .i64 5, .bool t, .int .i64 i, .string s, .slice av l.length c, .slice kv ks.length kc] 26)).drew).alloc o).alloc o') w.heap.size 26 #[.int .i64 5, .bool t, .int .i64 i, .string s, .slice av l.length c, .slice kv ks.length kc] := fun o o' => (C0.out.drew.alloc o).alloc o'
      have NBb := Lib.hid (show ∀ g1 cap1 w1, ((((w.alloc (.cells #[.int .i64 5, .bool t, .int .i64 i, .string s, .slice av l.length c, .slice kv ks.length kc] 26)).drew).alloc (.cells #[.int .u8 125] 5)).alloc (.cells #[.int .u8 123] 5)).grownBy w1 sv.ownBlock → (sv.ownBlock = some g1 ∨ g1 = ((((w.alloc (.cells #[.int .i64 5, .bool t, .int .i64 i, .string s, .slice av l.length c, .slice kv ks.length kc] 26)).drew).alloc (.cells #[.int .u8 125] 5)).alloc (.cells #[.int .u8 123] 5)).heap.size) → CellsAt w1 (w.heap.size + 1) 5 #[.int .u8 125] ∧ some (w.heap.size + 1) ≠ (Value.slice (some ⟨g1, 0, none⟩) (n + 1) cap1).ownBlock from fun g1 cap1 w1 hg hl => by
        have h0 : CellsAt ((((w.alloc (.cells #[.int .i64 5, .bool t, .int .i64 i, .string s, .slice av l.length c, .slice kv ks.length kc] 26)).drew).alloc (.cells #[.int .u8 125] 5)).alloc (.cells #[.int .u8 123] 5)) (w.heap.size + 1) 5 #[.int .u8 125] := by have h := ((CellsAt.new ((w.alloc (.cells #[.int .i64 5, .bool t, .int .i64 i, .string s, .slice av l.length c, .slice kv ks.length kc] 26)).drew) 5 #[.int .u8 125]).alloc (.cells #[.int .u8 123] 5)); simpa using h
        refine ⟨h0.of_block (hg.block _ h0.lt (NE.out _ (by omega))), ?_⟩
        intro h
        have h : w.heap.size + 1 = g1 := Option.some.inj h
        rcases hl with e | e
        · exact NE.out (w.heap.size + 1) (by omega) (by rw [e, h])
        · have := h0.lt; omega)
      have NBc := Lib.hid (show ∀ g1 cap1 w1, ((((w.alloc (.cells #[.int .i64 5, .bool t, .int .i64 i, .string s, .slice av l.length c, .slice kv ks.length kc] 26)).drew).alloc (.cells #[.int .u8 123] 5)).alloc (.cells #[.int .u8 125] 5)).grownBy w1 sv.ownBlock → (sv.ownBlock = some g1 ∨ g1 = ((((w.alloc (.cells #[.int .i64 5, .bool t, .int .i64 i, .string s, .slice av l.length c, .slice kv ks.length kc] 26)).drew).alloc (.cells #[.int .u8 123] 5)).alloc (.cells #[.int .u8 125] 5)).heap.size) → CellsAt w1 (w.heap.size + 1 + 1) 5 #[.int .u8 125] ∧ some (w.heap.size + 1 + 1) ≠ (Value.slice (some ⟨g1, 0, none⟩) (n + 1) cap1).ownBlock from fun g1 cap1 w1 hg hl => by
        have h0 : CellsAt ((((w.alloc (.cells #[.int .i64 5, .bool t, .int .i64 i, .string s, .slice av l.length c, .slice kv ks.length kc] 26)).drew).alloc (.cells #[.int .u8 123] 5)).alloc (.cells #[.int .u8 125] 5)) (w.heap.size + 1 + 1) 5 #[.int .u8 125] := by have h := (CellsAt.new (((w.alloc (.cells #[.int .i64 5, .bool t, .int .i64 i, .string s, .slice av l.length c, .slice kv ks.length kc] 26)).drew).alloc (.cells #[.int .u8 123] 5)) 5 #[.int .u8 125]); simpa using h
        refine ⟨h0.of_block (hg.block _ h0.lt (NE.out _ (by omega))), ?_⟩
        intro h
        have h : w.heap.size + 1 + 1 = g1 := Option.some.inj h
        rcases hl with e | e
        · exact NE.out (w.heap.size + 1 + 1) (by omega) (by rw [e, h])
        · have := h0.lt; omega)
      have a0 : ((w.alloc (.cells #[.int .i64 5, .bool t, .int .i64 i, .string s, .slice av l.length c, .slice kv ks.length kc] 26)).drew).cell? ⟨w.heap.size, 0, none⟩ = some (.int .i64 5) := C0.out.drew.cell rfl
      have b0 : ∀ o, (((w.alloc (.cells #[.int .i64 5, .bool t, .int .i64 i, .string s, .slice av l.length c, .slice kv ks.length kc] 26)).drew).alloc o).cell? ⟨w.heap.size, 0, none⟩ = some (.int .i64 5) := fun o => (C0.out.drew.alloc o).cell rfl
      have d0 : ∀ o o', ((((w.alloc (.cells #[.int .i64 5, .bool t, .int .i64 i, .string s, .slice av l.length c, .slice kv ks.length kc] 26)).drew).alloc o).alloc o').cell? ⟨w.heap.size, 0, none⟩ = some (.int .i64 5) := fun o o' => ((C0.out.drew.alloc o).alloc o').cell rfl
      have a1 : ((w.alloc (.cells #[.int .i64 5, .bool t, .int .i64 i, .string s, .slice av l.length c, .slice kv ks.length kc] 26)).drew).cell? ⟨w.heap.size, 1, none⟩ = some (.bool t) := C0.out.drew.cell rfl
      have b1 : ∀ o, (((w.alloc (.cells #[.int .i64 5, .bool t, .int .i64 i, .string s, .slice av l.length c, .slice kv ks.length kc] 26)).drew).alloc o).cell? ⟨w.heap.size, 1, none⟩ = some (.bool t) := fun o => (C0.out.drew.alloc o).cell rfl
      have d1 : ∀ o o', ((((w.alloc (.cells #[.int .i64 5, .bool t, .int .i64 i, .string s, .slice av l.length c, .slice kv ks.length kc] 26)).drew).alloc o).alloc o').cell? ⟨w.heap.size, 1, none⟩ = some (.bool t) := fun o o' => ((C0.out.drew.alloc o).alloc o').cell rfl
      have a2 : ((w.alloc (.cells #[.int .i64 5, .bool t, .int .i64 i, .string s, .slice av l.length c, .slice kv ks.length kc] 26)).drew).cell? ⟨w.heap.size, 2, none⟩ = some (.int .i64 i) := C0.out.drew.cell rfl
      have b2 : ∀ o, (((w.alloc (.cells #[.int .i64 5, .bool t, .int .i64 i, .string s, .slice av l.length c, .slice kv ks.length kc] 26)).drew).alloc o).cell? ⟨w.heap.size, 2, none⟩ = some (.int .i64 i) := fun o => (C0.out.drew.alloc o).cell rfl
      have d2 : ∀ o o', ((((w.alloc (.cells #[.int .i64 5, .bool t, .int .i64 i, .string s, .slice av l.length c, .slice kv ks.length kc] 26)).drew).alloc o).alloc o').cell? ⟨w.heap.size, 2, none⟩ = some (.int .i64 i) := fun o o' => ((C0.out.drew.alloc o).alloc o').cell rfl
      have a3 : ((w.alloc (.cells #[.int .i64 5, .bool t, .int .i64 i, .string s, .slice av l.length c, .slice kv ks.length kc] 26)).drew).cell? ⟨w.heap.size, 3, none⟩ = some (.string s) := C0.out.drew.cell rfl
      have b3 : ∀ o, (((w.alloc (.cells #[.int .i64 5, .bool t, .int .i64 i, .string s, .slice av l.length c, .slice kv ks.length kc] 26)).drew).alloc o).cell? ⟨w.heap.size, 3, none⟩ = some (.string s) := fun o => (C0.out.drew.alloc o).cell rfl
      have d3 : ∀ o o', ((((w.alloc (.cells #[.int .i64 5, .bool t, .int .i64 i, .string s, .slice av l.length c, .slice kv ks.length kc] 26)).drew).alloc o).alloc o').cell? ⟨w.heap.size, 3, none⟩ = some (.string s) := fun o o' => ((C0.out.drew.alloc o).alloc o').cell rfl
      have a4 : ((w.alloc (.cells #[.int .i64 5, .bool t, .int .i64 i, .string s, .slice av l.length c, .slice kv ks.length kc] 26)).drew).cell? ⟨w.heap.size, 4, none⟩ = some (.slice av l.length c) := C0.out.drew.cell rfl
      have b4 : ∀ o, (((w.alloc (.cells #[.int .i64 5, .bool t, .int .i64 i, .string s, .slice av l.length c, .slice kv ks.length kc] 26)).drew).alloc o).cell? ⟨w.heap.size, 4, none⟩ = some (.slice av l.length c) := fun o => (C0.out.drew.alloc o).cell rfl
      have d4 : ∀ o o', ((((w.alloc (.cells #[.int .i64 5, .bool t, .int .i64 i, .string s, .slice av l.length c, .slice kv ks.length kc] 26)).drew).alloc o).alloc o').cell? ⟨w.heap.size, 4, none⟩ = some (.slice av l.length c) := fun o o' => ((C0.out.drew.alloc o).alloc o').cell rfl
      have a5 : ((w.alloc (.cells #[.int .i64 5, .bool t, .int .i64 i, .string s, .slice av l.length c, .slice kv ks.length kc] 26)).drew).cell? ⟨w.heap.size, 5, none⟩ = some (.slice kv ks.length kc) := C0.out.drew.cell rfl
      have b5 : ∀ o, (((w.alloc (.cells #[.int .i64 5, .bool t, .int .i64 i, .string s, .slice av l.length c, .slice kv ks.length kc] 26)).drew).alloc o).cell? ⟨w.heap.size, 5, none⟩ = some (.slice kv ks.length kc) := fun o => (C0.out.drew.alloc o).cell rfl
      have d5 : ∀ o o', ((((w.alloc (.cells #[.int .i64 5, .bool t, .int .i64 i, .string s, .slice av l.length c, .slice kv ks.length kc] 26)).drew).alloc o).alloc o').cell? ⟨w.heap.size, 5, none⟩ = some (.slice kv ks.length kc) := fun o o' => ((C0.out.drew.alloc o).alloc o').cell rfl
      go_region_law (first | (refine step_append_lies _ rfl (.tmp 38) (.tmp 39) 46 rfl w0.heap.size 5 i0 (.int .u8 0) 1 1 Tryz.underlying46 hi hz0 hz1 hz2 rfl (by decide) sv n xs rfl (by first | exact HOa _ | exact HOb _ _) _ 1 1 [.int .u8 123] rfl rfl (by first | exact NA1 | exact NA2 | exact NA3) ON1 (by decide) hb1 hb2 (by first | exact hsA _ | exact hsB _ _) _ rfl ?_; intro g1 cap1 w1 ho1 hg1 hl1 hs1; obtain ⟨O1, FW, BW, CE, zz1⟩ := P1.out _ g1 cap1 w1 (by first | exact BXa _ | exact BXb _ _) (by first | exact BYa _ | exact BYb _ _) (by first | exact lXa _ | exact lXb _ _) (by first | exact cXa _ | exact cXb _ _) ho1 hg1 hl1; have y0 : w1.cell? ⟨w.heap.size, 0, none⟩ = some (.int .i64 5) := CE.cell rfl; have z0 : ∀ o, (w1.alloc o).cell? ⟨w.heap.size, 0, none⟩ = some (.int .i64 5) := fun o => (CE.alloc o).cell rfl; have y1 : w1.cell? ⟨w.heap.size, 1, none⟩ = some (.bool t) := CE.cell rfl; have z1 : ∀ o, (w1.alloc o).cell? ⟨w.heap.size, 1, none⟩ = some (.bool t) := fun o => (CE.alloc o).cell rfl; have y2 : w1.cell? ⟨w.heap.size, 2, none⟩ = some (.int .i64 i) := CE.cell rfl; have z2 : ∀ o, (w1.alloc o).cell? ⟨w.heap.size, 2, none⟩ = some (.int .i64 i) := fun o => (CE.alloc o).cell rfl; have y3 : w1.cell? ⟨w.heap.size, 3, none⟩ = some (.string s) := CE.cell rfl; have z3 : ∀ o, (w1.alloc o).cell? ⟨w.heap.size, 3, none⟩ = some (.string s) := fun o => (CE.alloc o).cell rfl; have y4 : w1.cell? ⟨w.heap.size, 4, none⟩ = some (.slice av l.length c) := CE.cell rfl; have z4 : ∀ o, (w1.alloc o).cell? ⟨w.heap.size, 4, none⟩ = some (.slice av l.length c) := fun o => (CE.alloc o).cell rfl; have y5 : w1.cell? ⟨w.heap.size, 5, none⟩ = some (.slice kv ks.length kc) := CE.cell rfl; have z5 : ∀ o, (w1.alloc o).cell? ⟨w.heap.size, 5, none⟩ = some (.slice kv ks.length kc) := fun o => (CE.alloc o).cell rfl; (first | (have nb := NBb.out g1 cap1 w1 hg1 hl1) | (have nb := NBc.out g1 cap1 w1 hg1 hl1) | skip); clear ho1 hg1 hl1 hs1) | (refine step_append_lies _ rfl (.tmp 42) (.tmp 43) 46 rfl w0.heap.size 5 i0 (.int .u8 0) 1 1 Tryz.underlying46 hi hz0 hz1 hz2 rfl (by decide) v2 (n + ([(123 : UInt8)] ++ IT).length) (xs ++ Lib.byteCells ([(123 : UInt8)] ++ IT)) rfl (by first | exact O2.out | exact O2.out.alloc _) _ 1 1 [.int .u8 125] rfl rfl (by first | exact World.news_of_block nw.blk | exact World.news_of_block (heap_alloc_new w2 _)) ON2 (by decide) hb4 hb5 (by first | exact zz2 | exact zz3 _) _ rfl ?_; intro g3 cap3 w3 ho3 hg3 hl3 hs3; have O3 := Lib.hid ho3; have B3 := Lib.hid (show Below w0.heap.size w w3 from by first | exact B2.out.grown hg3 zz2 (fun k hk => (O2.out.lt k hk).1) | exact (B2.out.alloc zz2 _).grown hg3 (zz3 _) (fun k hk => (O2.out.lt k hk).1)); have F3 := Lib.hid (show Frm sv (.slice (some ⟨g3, 0, none⟩) (n + ([(123 : UInt8)] ++ IT).length + 1) cap3) w w3 from by first | exact F2.out.trans (Frm.of_grown hg3 (hl3.imp (fun h => h.symm) (fun h => ⟨_, rfl, Nat.le_of_eq h.symm⟩))) | exact (F2.out.right ((Below.refl w2.heap.size w2).alloc (Nat.le_refl _) _)).trans (Frm.of_grown hg3 (hl3.imp (fun h => h.symm) (fun h => ⟨_, rfl, Nat.le_of_eq h.symm⟩)))); clear ho3 hg3 hl3 hs3) | (go_simp; go_at_call 144; (first | (go_fit (EL.out _ _ _ w1 (HBW.out.trans BW.out) O1.out hb3); rintro e w2 ⟨v2, rfl, h1, h2, h3⟩; have B2 := Lib.hid (BW.out.trans h2); have F2 := Lib.hid (FW.out.trans h3); (first | (have nw := nb.1.of_block (h3.block _ nb.1.lt nb.2)) | skip)) | (go_fit (EL.out _ _ _ (w1.alloc (.cells #[.int .u8 125] 5)) (HBW.out.trans (BW.out.alloc zz1 (.cells #[.int .u8 125] 5))) (O1.out.alloc (.cells #[.int .u8 125] 5)) hb3); rintro e w2 ⟨v2, rfl, h1, h2, h3⟩; have B2 := Lib.hid ((BW.out.alloc zz1 (.cells #[.int .u8 125] 5)).trans h2); have F2 := Lib.hid ((FW.out.right ((Below.refl w1.heap.size w1).alloc (Nat.le_refl _) (.cells #[.int .u8 125] 5))).trans h3); have nw := (CellsAt.new w1 5 #[.int .u8 125]).of_block (h3.block _ (by simp) (fun h => Nat.lt_irrefl _ (O1.out.lt _ h.symm).2)))); have zz2 : w0.heap.size ≤ w2.heap.size := (by have := B2.out.size; omega); have zz3 : ∀ o, w0.heap.size ≤ (w2.alloc o).heap.size := fun o => Nat.le_trans zz2 (by simp); have O2 := Lib.hid (OwnB.own h1); clear h1 h2 h3))
      all_goals
        go_wp2_with fail
        go_ret
        refine ⟨_, rfl, ?_, B3.out, F3.out⟩
        have h := OwnB.own (b := [(125 : UInt8)]) O3.out
        have e : [(123 : UInt8)] ++ IT ++ [(125 : UInt8)] = 123 :: (IT ++ [125]) := rfl
        rw [e] at h
        exact h
end Go.Proofs.YtjehhldboopocaaGreatDoor
namespace Go.Proofs.YtjehhldboopocaaGreatDoor
open Go.RowKit Go.Lib
/-- A slice of bytes reads as a list: nil, or cells in a block that is there. -/
def ReadsBytes (w : World) (v : Option Addr) (l : List UInt8) : Prop :=
  ∀ k (h : k < l.length), ∃ b off, v = some ⟨b, off, none⟩ ∧ b < w.heap.size ∧ w.cell? ⟨b, off + k, none⟩ = some (.int .u8 l[k].toNat)

/-- Bytes that are read become the string of them. -/
theorem push_all : ∀ (l : List UInt8) (s : ByteArray), (l.map fun b => (b.toNat : Int)).foldl (fun r n => r.push (UInt8.ofNat n.toNat)) s = ⟨s.data ++ l.toArray⟩
  | [], s => by simp
  | b :: l, s => by
    simp only [List.map_cons, List.foldl_cons]
    rw [push_all l]
    simp [ByteArray.push]
theorem conv_str (v : Option Addr) (l : List UInt8) (w : World) (hr : ReadsBytes w v l) (cap : Nat) :
    (convert 46 9 (.slice v l.length cap)).run Tryz.prog w = .ok (.string ⟨l.toArray⟩) w := by
  rw [run_convert_bytes_string w 46 9 5 v l.length cap Tryz.underlying46 Tryz.underlying5 Tryz.underlying9]
  cases v with
  | none =>
    have hl : l = [] := by
      cases l with
      | nil => rfl
      | cons b l =>
        obtain ⟨_, _, h, _⟩ := hr 0 (by simp)
        cases h
    subst hl
    rfl
  | some a =>
    have hc := run_loadCells_list (P := Tryz.prog) (w := w) a (l.map fun b => Value.int .u8 (b.toNat : Int)) (by
      intro j u hj
      rw [List.getElem?_map] at hj
      cases hl : l[j]? with
      | none => rw [hl] at hj; cases hj
      | some b =>
        rw [hl] at hj
        obtain rfl := Option.some.inj hj
        obtain ⟨hjl, rfl⟩ := List.getElem?_eq_some_iff.1 hl
        obtain ⟨blk, off, e, _, hcell⟩ := hr j hjl
        obtain rfl := Option.some.inj e
        have ea : (⟨blk, off, none⟩ : Addr).add j = ⟨blk, off + j, none⟩ := by
          unfold Addr.add
          split
          · rename_i h; subst h; rfl
          · rfl
        rw [ea]
        exact hcell)
    rw [List.length_map] at hc
    rw [run_bytesToString w a l.length cap (l.map fun b => (b.toNat : Int)) (by rw [hc, List.map_map]; rfl), push_all]
    simp
/-- An owned row of bytes reads as these bytes. -/
theorem own_reads {w : World} {B n : Nat} {v : Value} {l : List UInt8} (h : w.ownsRow B 5 1 v n (Lib.byteCells l)) (hn : n = l.length) : ∃ a c, v = .slice a l.length c ∧ l.length ≤ c ∧ c ≤ maxLen ∧ ReadsBytes w a l := by
  rcases h.2 with ⟨rfl, h0⟩ | ⟨g, cap, cur, rfl, _, hg, hnc, hcm, _⟩
  · have hl : l = [] := List.eq_nil_of_length_eq_zero (by omega)
    subst hl
    exact ⟨none, 0, rfl, by simp, by simp, fun k hk => by simp at hk⟩
  · subst hn
    refine ⟨some ⟨g, 0, none⟩, cap, rfl, hnc, hcm, ?_⟩
    intro k hk
    have hlt := (Array.getElem?_eq_some_iff.1 hg).1
    refine ⟨g, 0, rfl, hlt, ?_⟩
    have hc := h.cells rfl k (.int .u8 (l[k]).toNat) (by simp [Lib.byteCells, hk])
    have e : (⟨g, 0, none⟩ : Addr).add k = ⟨g, 0 + k, none⟩ := by
      unfold Addr.add
      split
      · rename_i h; subst h; rfl
      · rfl
    rw [e] at hc
    exact hc

/-- What Show answers. -/
def showB (m : Nat) (x : Vl) : ByteArray := if errV 16 x = 0 then ⟨(litV m x).toArray⟩ else ⟨#[]⟩
theorem tabP_below {w w' : World} (h : TabP w) (hb : Below w.heap.size w w') : TabP w' := (tabBelow_of_tabIs h).on hb |>.here

set_option maxRecDepth 100000 in
set_option maxHeartbeats 4000000 in
theorem show_any (m : Nat) (V : Value) (x : Vl) (w : World) (hT : TabP w) (hV : IsV m w V x) (hlim : errV 16 x = 0 → (litV m x).length + 64 ≤ 140737488355328) :
    Calls Tryz.prog 63 #[V] w fun e w' => e = .returned (.string (showB m x)) ∧ Below w.heap.size w w' := by
  have VV := Lib.hid (fun w' (hb : Below w.heap.size w w') => validV_any m V x w' (hV.below hb))
  have AP := Lib.hid (fun w0 (hb : Below w.heap.size w w0) (h0 : errV 16 x = 0) => appLit_any w0 (tabP_below hT hb) m 16 V x 0 (.slice none 0 0) [] w0 h0 (hV.below hb) (Below.refl _ _) (World.ownsRow_nil w0 w0.heap.size 5 1))
  have HLM := Lib.hid hlim
  obtain ⟨k, t, i, s, l, ks, av, c, kv, kc, rfl, rfl, _⟩ := hV
  clear hlim hT
  by_cases h0 : errV 16 (.mk k t i s l ks) = 0
  · have E := Lib.hid (show showB m (.mk k t i s l ks) = ⟨(litV m (.mk k t i s l ks)).toArray⟩ by unfold showB; rw [if_pos h0])
    have AP := Lib.hid (fun w0 (hb : Below w.heap.size w w0) => AP.out w0 hb h0 (by have := HLM.out h0; omega))
    rw [h0] at VV
    obtain ⟨LT, hLT⟩ : ∃ LT, LT = litV m (.mk k t i s l ks) := ⟨_, rfl⟩
    rw [← hLT] at AP E
    clear HLM h0 hLT
    have C0 := CellsAt.new w 26 #[.int .i64 k, .bool t, .int .i64 i, .string s, .slice av l.length c, .slice kv ks.length kc]
    go_enter Tryz.func63, Tryz.ntmps63
    go_wp2_with fail
    go_fit (VV.out _ (by repeat (first | exact Below.refl _ _ | refine Below.alloc ?_ (by simp <;> omega) _)))
    rintro e w1 ⟨rfl, hb1⟩
    have C1 := C0.below hb1
    have B1 := Lib.hid (Below.trans (show Below w.heap.size w _ from (by repeat (first | exact Below.refl _ _ | refine Below.alloc ?_ (by simp <;> omega) _))) (hb1.mono (by simp <;> omega)))
    have y0 : w1.cell? ⟨w.heap.size, 0, none⟩ = some (.int .i64 k) := C1.cell rfl
    have y1 : w1.cell? ⟨w.heap.size, 1, none⟩ = some (.bool t) := C1.cell rfl
    have y2 : w1.cell? ⟨w.heap.size, 2, none⟩ = some (.int .i64 i) := C1.cell rfl
    have y3 : w1.cell? ⟨w.heap.size, 3, none⟩ = some (.string s) := C1.cell rfl
    have y4 : w1.cell? ⟨w.heap.size, 4, none⟩ = some (.slice av l.length c) := C1.cell rfl
    have y5 : w1.cell? ⟨w.heap.size, 5, none⟩ = some (.slice kv ks.length kc) := C1.cell rfl
    clear hb1 C0 C1
    go_wp2_with fail
    go_fit (AP.out _ B1.out)
    rintro e w2 ⟨v2, rfl, h1, h2, h3⟩
    have h1 : w2.ownsRow w1.heap.size 5 1 v2 LT.length (Lib.byteCells LT) := by simpa using h1
    obtain ⟨a, c', rfl, _, _, hr⟩ := own_reads h1 rfl
    have hc := conv_str a LT w2 hr c'
    have B2 := Lib.hid (B1.out.trans (h2.mono B1.out.size))
    clear h1 h2 h3 hr
    go_wp2_with fail
    go_ret
    exact ⟨by rw [E.out]; rfl, B2.out⟩
  · have E := Lib.hid (show showB m (.mk k t i s l ks) = ⟨#[]⟩ by unfold showB; rw [if_neg h0])
    have hne : ((errV 16 (.mk k t i s l ks) : Int) != 0) = true := by simpa using h0
    generalize errV 16 (.mk k t i s l ks) = q at *
    clear HLM AP h0
    go_enter Tryz.func63, Tryz.ntmps63
    go_wp2_with fail
    go_fit (VV.out _ (by repeat (first | exact Below.refl _ _ | refine Below.alloc ?_ (by simp <;> omega) _)))
    rintro e w1 ⟨rfl, hb1⟩
    have B1 := Lib.hid (Below.trans (show Below w.heap.size w _ from (by repeat (first | exact Below.refl _ _ | refine Below.alloc ?_ (by simp <;> omega) _))) (hb1.mono (by simp <;> omega)))
    clear hb1
    go_wp2_with fail
    go_ret
    exact ⟨by rw [E.out]; rfl, B1.out⟩

end Go.Proofs.YtjehhldboopocaaGreatDoor
