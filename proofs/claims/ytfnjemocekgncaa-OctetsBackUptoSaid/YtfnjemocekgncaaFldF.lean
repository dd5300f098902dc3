/- The contract of the document's field (octets), by induction on the levels of its list. -/
import Derived.Test.YtfnjemocekgncaaFldE
import Derived.Test.YtfnjemocekgncaaOctK
import Derived.Test.YtfnjemocekgncaaLives2
namespace Go.Proofs.Ytfnjemocekgncaa
open Go.RowKit Go.Lib

theorem row_one (w : World) (B : Nat) (x : Value) (hB : B ≤ w.heap.size) : (w.alloc (.cells #[x] 5)).ownsRow B 5 1 (.slice (some ⟨w.heap.size, 0, none⟩) 1 1) 1 [x] :=
  ⟨rfl, .inr ⟨w.heap.size, 1, #[x], rfl, hB, heap_alloc_new w _, by omega, by decide, rfl, rfl⟩⟩
theorem owns_intro {w w3 : World} {v : Value} {l : List UInt8} {n : Nat} {xs : List Value} {B : Nat} (h : w3.ownsRow B 5 1 v n xs) (hB : w.heap.size ≤ B) (hn : n = l.length) (hx : xs = Lib.byteCells l) (hb : Below w.heap.size w w3) : Owns w.heap.size 0 [] w l (.returned v) w3 :=
  ⟨v, rfl, by rw [Nat.zero_add, List.nil_append, ← hn, ← hx]; exact ⟨h.1, h.2.imp id fun ⟨g, cap, cur, h1, h2, h3⟩ => ⟨g, cap, cur, h1, Nat.le_trans hB h2, h3⟩⟩, hb, keep_below hb⟩

/-- The contract, for lists of at most m levels. -/
def RFOk (m : Nat) : Prop := ∀ (k i : Int) (s : ByteArray) (v : Option Addr) (c : Nat) (l : List Fd) (w : World),
  -9223372036854775808 ≤ i → i ≤ 9223372036854775807 → l.length ≤ 9223372036854775807 → ReadsF m w v l → (encF (m + 1) (.mk k i s l)).length + 10 ≤ 140737488355328 →
  Calls Try.prog 36 #[.agg #[.int .i64 k, .int .i64 i, .string s, .slice v l.length c]] w (Owns w.heap.size 0 [] w (encF (m + 1) (.mk k i s l)))

set_option maxHeartbeats 4000000 in
set_option maxRecDepth 100000 in
theorem rfield_int (m : Nat) (i : Int) (s : ByteArray) (v : Option Addr) (c : Nat) (l : List Fd) (w : World) (h0 : -9223372036854775808 ≤ i) (h1 : i ≤ 9223372036854775807) :
    Calls Try.prog 36 #[.agg #[.int .i64 0, .int .i64 i, .string s, .slice v l.length c]] w (Owns w.heap.size 0 [] w (encF (m + 1) (.mk 0 i s l))) := by
  obtain ⟨i0, hi, hz0, hz1, hz2⟩ := info_parts info8
  have HE := Lib.hid (show encF (m + 1) (.mk 0 i s l) = kindB 0 :: Lib.uvarint (Lib.zigzag i) by simp [encF])
  rw [HE.out]
  have ln := Lib.uvarint_length64 (Lib.zigzag_lt h0 h1)
  have pn := Lib.uvarint_pos (Lib.zigzag i)
  have HC := fun w => Lib.hid (refPutInt_any i h0 h1 w)
  obtain ⟨un, hun⟩ : ∃ un, un = Lib.uvarint (Lib.zigzag i) := ⟨_, rfl⟩
  rw [← hun] at HC ln pn ⊢
  clear hun
  go_enter Try.func36, Try.ntmps36
  go_wp2_with fail
  go_fit ((HC _).out)
  rintro e w2 ⟨v2, rfl, ho2, hb2, _⟩
  obtain ⟨a2, c2, rfl, _, _, hr2⟩ := own_reads (l := un) ho2 (by omega)
  obtain ⟨b2, o2, rfl⟩ := reads_some hr2 (by omega)
  have hrow := own_below (row_one (w.alloc (Obj.cells #[.int .i64 0, .int .i64 i, .string s, .slice v l.length c] 48)) w.heap.size (.int .u8 0) (by simp)) hb2
  rw [show (w.alloc (Obj.cells #[.int .i64 0, .int .i64 i, .string s, .slice v l.length c] 48)).heap.size = w.heap.size + 1 by simp] at hrow
  have HB2 := Lib.hid ((((Below.refl w.heap.size w).alloc (Nat.le_refl _) _).alloc (by simp) _).trans (hb2.mono (by simp; omega)))
  have hz2' : w.heap.size ≤ w2.heap.size := HB2.out.size
  have HRow := Lib.hid hrow
  have HR2 := Lib.hid hr2
  clear hrow hr2 ho2 hb2
  go_wp2_with (at_builtin; refine wpList_append_own _ rfl _ _ 23 rfl w.heap.size 5 i0 (.int .u8 0) 1 1 Try.underlying23 hi hz0 hz1 hz2 rfl (by decide) _ _ _ rfl HRow.out ⟨b2, o2, none⟩ un.length c2 (Lib.byteCells un) rfl ?lx ?c1x ?c2x ?c3x ?c4x ?c5x ?_)
  case lx => simp [Lib.byteCells]
  case c1x => exact reads_cells HR2.out
  case c2x => exact byteCells_one' un
  case c3x => unfold maxLen; omega
  case c4x => omega
  case c5x => omega
  intro v6 w6 ho6 hg6 _
  have HO6 := Lib.hid (owns_intro (l := kindB 0 :: un) ho6 (Nat.le_refl _) (by simp; omega) (by rw [show kindB 0 :: un = [kindB 0] ++ un from rfl, byteCells_app, kindB_cell]; rfl) (HB2.out.grown hg6 hz2' (fun k hk => (HRow.out.lt k hk).1)))
  clear ho6 hg6
  go_wp2_with fail
  go_ret
  exact HO6.out

set_option maxHeartbeats 4000000 in
set_option maxRecDepth 100000 in
theorem rfield_str (m : Nat) (i : Int) (s : ByteArray) (v : Option Addr) (c : Nat) (l : List Fd) (w : World) (hlim : (encS s).length + 11 ≤ 140737488355328) :
    Calls Try.prog 36 #[.agg #[.int .i64 1, .int .i64 i, .string s, .slice v l.length c]] w (Owns w.heap.size 0 [] w (encF (m + 1) (.mk 1 i s l))) := by
  obtain ⟨i0, hi, hz0, hz1, hz2⟩ := info_parts info8
  have HE := Lib.hid (show encF (m + 1) (.mk 1 i s l) = kindB 1 :: encS s by simp [encF])
  rw [HE.out]
  have ln : s.size + 1 ≤ (encS s).length := by
    have := Lib.uvarint_pos s.size
    unfold encS
    simp only [List.length_append, Array.length_toList]
    have e : s.data.size = s.size := rfl
    omega
  have pn : 1 ≤ (encS s).length := by omega
  have HC := fun w => Lib.hid (refPutString_any s (by omega) w)
  obtain ⟨un, hun⟩ : ∃ un, un = encS s := ⟨_, rfl⟩
  rw [← hun] at HC ln pn hlim ⊢
  clear hun
  go_enter Try.func36, Try.ntmps36
  go_wp2_with fail
  go_fit ((HC _).out)
  rintro e w2 ⟨v2, rfl, ho2, hb2, _⟩
  obtain ⟨a2, c2, rfl, _, _, hr2⟩ := own_reads (l := un) ho2 (by omega)
  obtain ⟨b2, o2, rfl⟩ := reads_some hr2 (by omega)
  have hrow := own_below (row_one (w.alloc (Obj.cells #[.int .i64 1, .int .i64 i, .string s, .slice v l.length c] 48)) w.heap.size (.int .u8 1) (by simp)) hb2
  rw [show (w.alloc (Obj.cells #[.int .i64 1, .int .i64 i, .string s, .slice v l.length c] 48)).heap.size = w.heap.size + 1 by simp] at hrow
  have HB2 := Lib.hid ((((Below.refl w.heap.size w).alloc (Nat.le_refl _) _).alloc (by simp) _).trans (hb2.mono (by simp; omega)))
  have hz2' : w.heap.size ≤ w2.heap.size := HB2.out.size
  have HRow := Lib.hid hrow
  have HR2 := Lib.hid hr2
  clear hrow hr2 ho2 hb2
  go_wp2_with (at_builtin; refine wpList_append_own _ rfl _ _ 23 rfl w.heap.size 5 i0 (.int .u8 0) 1 1 Try.underlying23 hi hz0 hz1 hz2 rfl (by decide) _ _ _ rfl HRow.out ⟨b2, o2, none⟩ un.length c2 (Lib.byteCells un) rfl ?lx ?c1x ?c2x ?c3x ?c4x ?c5x ?_)
  case lx => simp [Lib.byteCells]
  case c1x => exact reads_cells HR2.out
  case c2x => exact byteCells_one' un
  case c3x => unfold maxLen; omega
  case c4x => omega
  case c5x => omega
  intro v6 w6 ho6 hg6 _
  have HO6 := Lib.hid (owns_intro (l := kindB 1 :: un) ho6 (Nat.le_refl _) (by simp; omega) (by rw [show kindB 1 :: un = [kindB 1] ++ un from rfl, byteCells_app, kindB_cell]; rfl) (HB2.out.grown hg6 hz2' (fun k hk => (HRow.out.lt k hk).1)))
  clear ho6 hg6
  go_wp2_with fail
  go_ret
  exact HO6.out

set_option maxHeartbeats 4000000 in
set_option maxRecDepth 100000 in
theorem rfield_list (m : Nat) (ih : Hid (∀ m', m = m' + 1 → RFOk m')) (k i : Int) (s : ByteArray) (v : Option Addr) (c : Nat) (l : List Fd) (w : World)
    (k0 : k ≠ 0) (k1 : k ≠ 1) (hlen : l.length ≤ 9223372036854775807) (hr : ReadsF m w v l) (hlim : (encF (m + 1) (.mk k i s l)).length + 10 ≤ 140737488355328) :
    Calls Try.prog 36 #[.agg #[.int .i64 k, .int .i64 i, .string s, .slice v l.length c]] w (Owns w.heap.size 0 [] w (encF (m + 1) (.mk k i s l))) := by
  obtain ⟨i0, hi, hz0, hz1, hz2⟩ := info_parts info8
  have HE := Lib.hid (show encF (m + 1) (.mk k i s l) = kindB k :: (Lib.uvarint l.length ++ l.flatMap (encF m)) by simp [encF, k0, k1])
  rw [HE.out] at hlim
  rw [HE.out]
  rw [List.length_cons, List.length_append] at hlim
  have e0 : (k == 0) = false := by rw [beq_eq_false_iff_ne]; exact k0
  have e1 : (k == 1) = false := by rw [beq_eq_false_iff_ne]; exact k1
  have HR := Lib.hid hr
  have ln := Lib.uvarint_length64 (x := l.length) (by omega)
  have pn := Lib.uvarint_pos l.length
  have HC := fun w => Lib.hid (refPutUint_any l.length (by omega) w)
  obtain ⟨un, hun⟩ : ∃ un, un = Lib.uvarint l.length := ⟨_, rfl⟩
  rw [← hun] at HC ln pn hlim ⊢
  clear k0 k1 hr hun
  go_enter Try.func36, Try.ntmps36
  go_wp2_with fail
  go_fit ((HC _).out)
  rintro e w2 ⟨v2, rfl, ho2, hb2, _⟩
  obtain ⟨a2, c2, rfl, _, _, hr2⟩ := own_reads (l := un) ho2 (by omega)
  obtain ⟨b2, o2, rfl⟩ := reads_some hr2 (by omega)
  obtain ⟨W1, hW1⟩ : ∃ W1, W1 = w.alloc (Obj.cells #[.int .i64 k, .int .i64 i, .string s, .slice v l.length c] 48) := ⟨_, rfl⟩
  rw [← hW1] at hb2
  have hzW : W1.heap.size = w.heap.size + 1 := by rw [hW1]; simp
  have hcW : W1.cell? ⟨w.heap.size, 3, none⟩ = some (.slice v l.length c) := by rw [hW1]; simp [go_sem]
  have HBW := Lib.hid (show Below w.heap.size w W1 by rw [hW1]; exact (Below.refl w.heap.size w).alloc (Nat.le_refl _) _)
  have HRow := own_below (row_one W1 W1.heap.size (.int .u8 (k % 256)) (Nat.le_refl _)) hb2
  rw [hzW] at HRow
  have HRow := Lib.hid HRow
  have HB2 := Lib.hid (((Below.refl W1.heap.size W1).alloc (Nat.le_refl _) _).trans (hb2.mono (by simp)))
  have hz2' : W1.heap.size ≤ w2.heap.size := HB2.out.size
  have hc2 := (HB2.out.cell (p := ⟨w.heap.size, 3, none⟩) (by simp; omega)).trans hcW
  have HR2 := Lib.hid hr2
  have HW1 := Lib.hid hW1
  clear hr2 ho2 hb2 hW1
  go_wp2_with (at_builtin; refine wpList_append_own _ rfl _ _ 23 rfl _ 5 i0 (.int .u8 0) 1 1 Try.underlying23 hi hz0 hz1 hz2 rfl (by decide) _ _ _ rfl HRow.out ⟨b2, o2, none⟩ un.length c2 (Lib.byteCells un) rfl ?lx ?c1x ?c2x ?c3x ?c4x ?c5x ?_)
  case lx => simp [Lib.byteCells]
  case c1x => exact reads_cells HR2.out
  case c2x => exact byteCells_one' un
  case c3x => unfold maxLen; omega
  case c4x => omega
  case c5x => omega
  intro v6 w6 ho6 hg6 _
  have hbx := HB2.out.grown hg6 hz2' (fun k hk => by have := (HRow.out.lt k hk).1; omega)
  have HO6 := Lib.hid (show w6.ownsRow (w.heap.size + 1) 5 1 v6 (kindB k :: un).length (Lib.byteCells (kindB k :: un)) by
    rw [show kindB k :: un = [kindB k] ++ un from rfl, byteCells_app, kindB_cell, List.length_append]
    exact ho6)
  have HB6 := Lib.hid hbx
  have hz6 := hbx.size
  have hc6 := (hbx.cell (p := ⟨w.heap.size, 3, none⟩) (by simp; omega)).trans hcW
  clear ho6 hg6 hbx HB2 HR2 hc2 HRow
  go_wp2_with fail
  go_loopw [3, 4] (fun s3 s4 wr => ∃ j : Nat, j ≤ l.length ∧ s4 = .int .i64 j ∧ wr.ownsRow (w.heap.size + 1) 5 1 s3 (kindB k :: un ++ (l.take j).flatMap (encF m)).length (Lib.byteCells (kindB k :: un ++ (l.take j).flatMap (encF m))) ∧ Below W1.heap.size W1 wr) (fun _ s4 _ => l.length - (RowKit.intOf s4).toNat)
  case atStart => exact ⟨0, by omega, rfl, by simpa using HO6.out, HB6.out⟩
  case round =>
    obtain ⟨j, hj, rfl, hown, hbel⟩ := hrel
    have HOW := Lib.hid hown
    have hzr : W1.heap.size ≤ wr.heap.size := hbel.size
    have HBR := Lib.hid hbel
    have hcr := (hbel.cell (p := ⟨w.heap.size, 3, none⟩) (by simp; omega)).trans hcW
    have HBwr := Lib.hid (HBW.out.trans (hbel.mono (by omega)))
    clear hown hbel HO6 HB6 hc6
    by_cases hlt : j < l.length
    · cases m with
      | zero => exact absurd hlt (by have h : l = [] := HR.out; rw [h]; simp)
      | succ m =>
        obtain ⟨b, off, k', i', s', av, c', l', h0, rfl, h2, h3, h4, h5, h6, h7, h8, h9, h10, h11, h12⟩ := HR.out j hlt
        have g3 := (HBwr.out.cell (p := ⟨b, _, none⟩) h2).trans h3
        have g4 := (HBwr.out.cell (p := ⟨b, _, none⟩) h2).trans h4
        have g5 := (HBwr.out.cell (p := ⟨b, _, none⟩) h2).trans h5
        have g6 := (HBwr.out.cell (p := ⟨b, _, none⟩) h2).trans h6
        have hft := flat_take (encF (m + 1)) l j _ h0
        have hfl := flat_len (encF (m + 1)) l (j + 1)
        rw [hft, List.length_append] at hfl
        have HFT := Lib.hid hft
        have IH := Lib.hid (ih.out m rfl k' i' s' av c' l' wr h9 h10 h11 (ReadsF.below HBwr.out m av l' h12) (by omega))
        obtain ⟨d, hd⟩ : ∃ d, d = kindB k :: un ++ (l.take j).flatMap (encF (m + 1)) := ⟨_, rfl⟩
        obtain ⟨r, hr⟩ : ∃ r, r = encF (m + 1) (.mk k' i' s' l') := ⟨_, rfl⟩
        have hdl : d.length = 1 + un.length + ((l.take j).flatMap (encF (m + 1))).length := by rw [hd]; simp; omega
        have hrp : 1 ≤ r.length := by rw [hr]; simp [encF]
        rw [← hd] at HOW
        rw [← hr] at IH hfl HFT
        have HD := Lib.hid hd
        clear h0 h2 h3 h4 h5 h6 h7 h8 h9 h10 h12 hft hr hd
        go_wp2_with fail
        go_fit (IH.out)
        rintro e w3 ⟨v3, rfl, ho3, hb3, _⟩
        obtain ⟨a3, c3, rfl, _, _, hr3⟩ := own_reads (l := r) ho3 (by omega)
        obtain ⟨b3, o3, rfl⟩ := reads_some hr3 (by omega)
        have HOW3 := Lib.hid (own_below HOW.out hb3)
        have HB3 := Lib.hid (HBR.out.trans (hb3.mono hzr))
        have hz3 : W1.heap.size ≤ w3.heap.size := HB3.out.size
        have HR3 := Lib.hid hr3
        clear ho3 hb3 hr3
        go_wp2_with (at_builtin; refine wpList_append_own _ rfl _ _ 23 rfl (w.heap.size + 1) 5 i0 (.int .u8 0) 1 1 Try.underlying23 hi hz0 hz1 hz2 rfl (by decide) _ _ _ rfl HOW3.out ⟨b3, o3, none⟩ r.length c3 (Lib.byteCells r) rfl ?ly ?c1y ?c2y ?c3y ?c4y ?c5y ?_)
        case ly => simp [Lib.byteCells]
        case c1y => exact reads_cells HR3.out
        case c2y => exact byteCells_one' r
        case c3y => unfold maxLen; omega
        case c4y => omega
        case c5y => omega
        intro v7 w7 ho7 hg7 _
        have HB7 := Lib.hid (HB3.out.grown hg7 hz3 (fun k hk => by have := (HOW3.out.lt k hk).1; omega))
        have HO7 := Lib.hid (show w7.ownsRow (w.heap.size + 1) 5 1 v7 (d ++ r).length (Lib.byteCells (d ++ r)) by
          have hq := ho7.1
          rw [List.length_append, show (Lib.byteCells d).length = d.length by simp [Lib.byteCells], show (Lib.byteCells r).length = r.length by simp [Lib.byteCells], Nat.mul_one] at hq
          rw [byteCells_app, List.length_append, hq]
          exact ho7)
        clear ho7 hg7
        go_wp2_with fail
        refine ⟨⟨j + 1, by omega, by go_num, ?_, HB7.out⟩, by simp [RowKit.intOf]; omega⟩
        have := HO7.out
        rw [HD.out] at this
        rw [HFT.out]
        simpa only [List.append_assoc, List.cons_append] using this
    · obtain rfl : j = l.length := by omega
      have HF := Lib.hid (owns_intro (w := w) (l := kindB k :: (un ++ l.flatMap (encF m))) HOW.out (by omega) (by rw [List.take_length]; rfl) (by rw [List.take_length]; rfl) HBwr.out)
      go_wp2_with fail
      go_ret
      exact HF.out

theorem rfield_all : ∀ m : Nat, RFOk m
  | m => by
    intro k i s v c l w h9 h10 hlen hr hlim
    by_cases k0 : k = 0
    · subst k0; exact rfield_int m i s v c l w h9 h10
    · by_cases k1 : k = 1
      · subst k1
        refine rfield_str m i s v c l w ?_
        rw [show encF (m + 1) (.mk 1 i s l) = kindB 1 :: encS s by simp [encF], List.length_cons] at hlim
        omega
      · exact rfield_list m (Lib.hid (fun m' hm => by subst hm; exact rfield_all m')) k i s v c l w k0 k1 hlen hr hlim
end Go.Proofs.Ytfnjemocekgncaa
