/- Contracts of internal/strconv.formatBits at base 16, of strconv.FormatUint and of the program's Text (digest). -/
import Derived.Test.YtoehpoodfbgdiaaDoorDigPb
import Derived.Test.YtoehpoodfbgdiaaDoorDigE
import Derived.Test.YtoehpoodfbgdiaaDoorShelf
namespace Go.Proofs.YtoehpoodfbgdiaaDoor
open Go.RowKit Go.Lib

theorem tz16_any (w : World) (hT : w.cell? ⟨5, 15, none⟩ = some (.int .u8 4)) :
    Calls Tryd.prog 65 #[.int .u64 16] w fun e w' => e = .returned (.int .i64 4) ∧ w = w' := by
  have key : IntKind.u64.wrap (bits .and .u64 16 (IntKind.u64.wrap (-16)) * 285870213051353865) / 288230376151711744 = 15 := by decide
  go_enter Tryd.func65, Tryd.ntmps65
  go_wp2
  go_ret
  exact ⟨rfl, rfl⟩

/-- What the table and the two variables of the library hold when a call begins. -/
def Tabs (w : World) : Prop :=
  w.cell? ⟨5, 15, none⟩ = some (.int .u8 4) ∧
  (∃ te pe, w.cell? ⟨1, 0, none⟩ = some (.iface te pe)) ∧
  (∃ te pe, w.cell? ⟨2, 0, none⟩ = some (.iface te pe))
theorem cell_lt {w : World} {p : Addr} {v : Value} (h : w.cell? p = some v) : p.block < w.heap.size := by
  rcases Nat.lt_or_ge p.block w.heap.size with hlt | hge
  · exact hlt
  · rw [World.cell?, Array.getElem?_eq_none hge] at h
    cases h
theorem cell_below {w w' : World} {p : Addr} {v : Value} (h : w.cell? p = some v) (hb : Below w.heap.size w w') : w'.cell? p = some v := (hb.cell (cell_lt h)).trans h
theorem Tabs.below {w w' : World} (h : Tabs w) (hb : Below w.heap.size w w') : Tabs w' :=
  ⟨cell_below h.1 hb, h.2.1.elim fun te ⟨pe, h1⟩ => ⟨te, pe, cell_below h1 hb⟩, h.2.2.elim fun te ⟨pe, h1⟩ => ⟨te, pe, cell_below h1 hb⟩⟩

theorem pow2_any (w : World) : Calls Tryd.prog 64 #[.int .i64 16] w fun e w' => e = .returned (.bool true) ∧ w = w' := by
  have e1 : bits .and .i64 16 15 = 0 := by decide
  go_enter Tryd.func64, Tryd.ntmps64
  go_wp2
  go_ret
  exact ⟨rfl, rfl⟩

theorem bits_and15 (x : Nat) (hx : x < 18446744073709551616) : bits .and .u64 (x : Int) 15 = ((x % 16 : Nat) : Int) := by
  have h1 : (BitVec.ofInt 64 (x : Int)).toNat = x := by
    rw [BitVec.ofInt_natCast, BitVec.toNat_ofNat]; exact Nat.mod_eq_of_lt (by omega)
  show IntKind.u64.wrap ((BitVec.ofInt 64 (x : Int) &&& BitVec.ofInt 64 15).toNat : Int) = _
  rw [BitVec.toNat_and, h1, show (BitVec.ofInt 64 15).toNat = 2 ^ 4 - 1 by decide, Nat.and_two_pow_sub_one_eq_mod, IntKind.wrap_u64]
  omega
theorem hexd_at (y : Nat) (h : y < 36) : ((⟨#[48, 49, 50, 51, 52, 53, 54, 55, 56, 57, 97, 98, 99, 100, 101, 102, 103, 104, 105, 106, 107, 108, 109, 110, 111, 112, 113, 114, 115, 116, 117, 118, 119, 120, 121, 122]⟩ : ByteArray)[y]'h) = hexd y := by
  have : ∀ y : Fin 36, ((⟨#[48, 49, 50, 51, 52, 53, 54, 55, 56, 57, 97, 98, 99, 100, 101, 102, 103, 104, 105, 106, 107, 108, 109, 110, 111, 112, 113, 114, 115, 116, 117, 118, 119, 120, 121, 122]⟩ : ByteArray)[y.1]'y.2) = hexd y.1 := by decide +kernel
  exact this ⟨y, h⟩
theorem set_mid (q : List UInt8) (b c : UInt8) (r : List UInt8) : (Lib.byteCells (q ++ b :: r)).set q.length (.int .u8 (c.toNat : Nat)) = Lib.byteCells (q ++ c :: r) := by
  simp [Lib.byteCells]

set_option maxRecDepth 100000 in
theorem slice65 (b k : Nat) (hk : k ≤ 15) (w : World) : (Instr.sliceAt 97 (.pointer (some ⟨b, 0, none⟩)) (some (.int .i64 (65 - (k : Int) - 1))) none none).run Tryd.prog w = .ok (.slice (some ⟨b, 65 - k - 1, none⟩) (k + 1) (k + 1)) w := by
  have ha : Tryd.prog.arrayLen 97 = 65 := by kernel_rfl
  have hs : (sizeOf (Tryd.prog.elem 97)).run Tryd.prog w = .ok 1 w := by kernel_rfl
  rw [run_sliceAt_array_l w 97 _ Tryd.underlying97 .i64 _ (by omega) (by rw [ha]; omega), hs, ha]
  have e : (65 - (k : Int) - 1).toNat = 65 - k - 1 := by omega
  simp only [Result.andThen, slicedAt, e]
  rw [if_neg (by omega), show 65 - (65 - k - 1) = k + 1 by omega]
  simp [Addr.add]
  omega
/-- The last bytes of an owned row read as such. -/
theorem own_tail {w : World} {B n g cap : Nat} {t : TypeId} {p q : List UInt8} (h : w.ownsRow B t 1 (.slice (some ⟨g, 0, none⟩) n cap) n (Lib.byteCells (p ++ q))) (hn : n = p.length + q.length) : ReadsBytes w (some ⟨g, p.length, none⟩) q := by
  intro j hj
  refine ⟨g, p.length, rfl, (h.lt g rfl).2, ?_⟩
  rw [h.cellAt (p.length + j) (by omega), Lib.byteCells, List.getElem?_map, List.getElem?_append_right (by omega), show p.length + j - p.length = j by omega, List.getElem?_eq_getElem hj]
  rfl

theorem own65 (w : World) : (w.alloc (.cells #[.int .u8 0, .int .u8 0, .int .u8 0, .int .u8 0, .int .u8 0, .int .u8 0, .int .u8 0, .int .u8 0, .int .u8 0, .int .u8 0, .int .u8 0, .int .u8 0, .int .u8 0, .int .u8 0, .int .u8 0, .int .u8 0, .int .u8 0, .int .u8 0, .int .u8 0, .int .u8 0, .int .u8 0, .int .u8 0, .int .u8 0, .int .u8 0, .int .u8 0, .int .u8 0, .int .u8 0, .int .u8 0, .int .u8 0, .int .u8 0, .int .u8 0, .int .u8 0, .int .u8 0, .int .u8 0, .int .u8 0, .int .u8 0, .int .u8 0, .int .u8 0, .int .u8 0, .int .u8 0, .int .u8 0, .int .u8 0, .int .u8 0, .int .u8 0, .int .u8 0, .int .u8 0, .int .u8 0, .int .u8 0, .int .u8 0, .int .u8 0, .int .u8 0, .int .u8 0, .int .u8 0, .int .u8 0, .int .u8 0, .int .u8 0, .int .u8 0, .int .u8 0, .int .u8 0, .int .u8 0, .int .u8 0, .int .u8 0, .int .u8 0, .int .u8 0, .int .u8 0] 97)).ownsRow w.heap.size 97 1 (.slice (some ⟨w.heap.size, 0, none⟩) 65 65) 65 (Lib.byteCells (List.replicate 65 0 ++ [])) :=
  ⟨by simp [Lib.byteCells], .inr ⟨w.heap.size, 65, _, rfl, Nat.le_refl _, heap_alloc_new w _, by decide, by decide, rfl, by simp [Lib.byteCells]⟩⟩

set_option maxHeartbeats 4000000 in
set_option maxRecDepth 100000 in
theorem formatBits16_any (n : Nat) (hn : n < 18446744073709551616) (w : World) (hT : Tabs w) :
    Calls Tryd.prog 49 #[.slice none 0 0, .int .u64 n, .int .i64 16, .bool false, .bool false] w fun e w' => ∃ m, 1 ≤ m ∧ m ≤ 16 ∧ n < 16 ^ m ∧ e = .returned (.tuple #[.slice none 0 0, .string ⟨(hexT m n).toArray⟩]) ∧ Below w.heap.size w w' := by
  have n0 : (0 : Int) ≤ n ∧ (n : Int) ≤ 18446744073709551615 := by omega
  have TZ := Lib.hid (fun w h => tz16_any w h)
  have HT := Lib.hid hT
  have HN := Lib.hid hn
  clear hn hT
  go_enter Tryd.func49, Tryd.ntmps49
  go_wp2_with fail
  go_fit (pow2_any _)
  rintro e w1 ⟨rfl, rfl⟩
  go_wp2_with fail
  go_fit (TZ.out _ (HT.out.below ((Below.refl w.heap.size w).alloc (Nat.le_refl _) _)).1)
  rintro e w1 ⟨rfl, rfl⟩
  go_wp2_with fail
  go_loopw [1, 13, 44, 45, 46, 47, 48, 49, 50, 51, 52, 53, 54, 55, 56, 57] (fun s1 s13 _ _ _ _ _ _ _ _ _ _ _ _ _ _ wr => ∃ (k x : Nat) (pre : List UInt8), k ≤ 15 ∧ x ≤ n ∧ x = n / 16 ^ k ∧ pre.length = 65 - k ∧ s1 = .int .u64 x ∧ s13 = .int .i64 (65 - (k : Int)) ∧ wr.ownsRow w.heap.size 97 1 (.slice (some ⟨w.heap.size, 0, none⟩) 65 65) 65 (Lib.byteCells (pre ++ hexT k n)) ∧ Below w.heap.size w wr)
    (fun s1 _ _ _ _ _ _ _ _ _ _ _ _ _ _ _ _ => (RowKit.intOf s1).toNat)
  case atStart => exact ⟨0, n, List.replicate 65 0, by omega, Nat.le_refl _, by simp, rfl, rfl, rfl, own65 w, (Below.refl w.heap.size w).alloc (Nat.le_refl _) _⟩
  case round =>
    obtain ⟨k, x, pre, hk, hx, hxe, hpl, rfl, rfl, hown, hbel⟩ := hrel
    have HX := Lib.hid hxe
    have hl := hown.cellAt (65 - k - 1) (by omega)
    obtain ⟨q, b, rfl⟩ : ∃ q b, pre = q ++ [b] := ⟨_, _, (List.dropLast_concat_getLast (List.ne_nil_of_length_pos (by omega))).symm⟩
    have hql : q.length = 65 - k - 1 := by simp at hpl; omega
    rw [List.append_assoc, List.singleton_append] at hown hl
    rw [Lib.byteCells, List.getElem?_map, ← hql, List.getElem?_append_right (Nat.le_refl _), Nat.sub_self] at hl
    have hl : wr.cell? ⟨w.heap.size, 65 - k - 1, none⟩ = some (.int .u8 (b.toNat : Nat)) := by rw [← hql]; exact hl
    have hf := hown.frozenAt (65 - k - 1)
    have HB := Lib.hid hbel
    have HO := Lib.hid hown
    have HS := Lib.hid (fun (c : UInt8) => (set_mid q b c (hexT k n)) ▸ (hown.stored q.length (.int .u8 (c.toNat : Nat))).1)
    have HQ := Lib.hid hql
    have hk15 : (k : Int) ≤ 15 := by omega
    clear hxe hbel hown hpl hql
    by_cases h16 : 16 ≤ x
    · have ha := bits_and15 x (by omega)
      have HD := Lib.hid (fun h => hexd_at (x % 16) h)
      have HY := Lib.hid (show hexT (k + 1) n = hexd (x % 16) :: hexT k n by rw [hexT_cons, HX.out])
      have hyl := Nat.mod_lt x (show 16 > 0 by decide)
      obtain ⟨y, hy⟩ : ∃ y, y = x % 16 := ⟨_, rfl⟩
      rw [← hy] at ha HD HY hyl
      clear hy
      have hk14 : k + 1 ≤ 15 := by
        rcases Nat.lt_or_ge k 15 with h | h
        · exact h
        · obtain rfl : k = 15 := by omega
          have h1 := HX.out
          have h2 := HN.out
          rw [show (16 : Nat) ^ 15 = 1152921504606846976 by decide] at h1
          omega
      go_wp2_with fail
      rw [HD.out (by omega)]
      refine ⟨⟨k + 1, x / 16, q, hk14, by omega, by rw [HX.out, Nat.div_div_eq_div_mul, Nat.pow_succ], by rw [HQ.out]; omega, rfl, by go_num, ?_, ?_⟩, by simp [RowKit.intOf]; omega⟩
      · rw [HY.out, ← HQ.out]; exact HS.out _
      · exact HB.out.setCell (Nat.le_refl _) _
    · have HD := Lib.hid (fun h => hexd_at x h)
      have HY := Lib.hid (show hexT (k + 1) n = hexd x :: hexT k n by rw [hexT_cons, ← HX.out, Nat.mod_eq_of_lt (by omega)])
      have HR := Lib.hid (show ReadsBytes (wr.setCell ⟨w.heap.size, 65 - k - 1, none⟩ (.int .u8 ((hexd x).toNat : Nat))) (some ⟨w.heap.size, 65 - k - 1, none⟩) (hexd x :: hexT k n) from by
        have h := HS.out (hexd x)
        rw [← HQ.out]
        exact own_tail h (by rw [List.length_cons, hexT_len, HQ.out]; omega))
      have hcv := conv_str _ _ _ HR.out (k + 1)
      rw [List.length_cons, hexT_len, ← HD.out (by omega)] at hcv
      have hsl := slice65 w.heap.size k (by omega) (wr.setCell ⟨w.heap.size, 65 - k - 1, none⟩ (.int .u8 ((hexd x).toNat : Nat)))
      rw [← HD.out (by omega)] at hsl
      go_wp2_with fail
      go_ret2
      rw [HD.out (by omega)]
      refine ⟨k + 1, by omega, by omega, ?_, by rw [HY.out]; rfl, HB.out.setCell (Nat.le_refl _) _⟩
      have h1 := HX.out
      rw [Nat.pow_succ]
      have h2 := Nat.div_add_mod n (16 ^ k)
      have h3 := Nat.mod_lt n (show 16 ^ k > 0 from Nat.pow_pos (by decide))
      rw [← h1] at h2
      have h4 : 16 ^ k * x + 16 ^ k ≤ 16 ^ k * 16 := by rw [← Nat.mul_succ]; exact Nat.mul_le_mul_left _ (by omega)
      omega

set_option maxRecDepth 100000 in
theorem innerFormat16_any (n : Nat) (hn : n < 18446744073709551616) (w : World) (hT : Tabs w) :
    Calls Tryd.prog 37 #[.int .u64 n, .int .i64 16] w fun e w' => ∃ m, 1 ≤ m ∧ m ≤ 16 ∧ n < 16 ^ m ∧ e = .returned (.string ⟨(hexT m n).toArray⟩) ∧ Below w.heap.size w w' := by
  have H := Lib.hid (formatBits16_any n hn w hT)
  clear hn hT
  go_enter Tryd.func37, Tryd.ntmps37
  go_wp2_with fail
  go_fit H.out
  rintro e w1 ⟨m, h1, h2, h3, rfl, hb⟩
  have B := Lib.hid (And.intro h1 (And.intro h2 (And.intro h3 hb)))
  clear h1 h2 h3 hb
  go_wp2_with fail
  go_ret
  exact ⟨m, B.out.1, B.out.2.1, B.out.2.2.1, rfl, B.out.2.2.2⟩
theorem format16_any (n : Nat) (hn : n < 18446744073709551616) (w : World) (hT : Tabs w) :
    Calls Tryd.prog 31 #[.int .u64 n, .int .i64 16] w fun e w' => ∃ m, 1 ≤ m ∧ m ≤ 16 ∧ n < 16 ^ m ∧ e = .returned (.string ⟨(hexT m n).toArray⟩) ∧ Below w.heap.size w w' := by
  have H := Lib.hid (innerFormat16_any n hn w hT)
  clear hn hT
  go_enter Tryd.func31, Tryd.ntmps31
  go_wp2_with fail
  go_fit H.out
  rintro e w1 ⟨m, h1, h2, h3, rfl, hb⟩
  have B := Lib.hid (And.intro h1 (And.intro h2 (And.intro h3 hb)))
  clear h1 h2 h3 hb
  go_wp2_with fail
  go_ret
  exact ⟨m, B.out.1, B.out.2.1, B.out.2.2.1, rfl, B.out.2.2.2⟩

theorem hexT_pad (m n : Nat) (h : n < 16 ^ m) : ∀ j, hexT (j + m) n = List.replicate j 48 ++ hexT m n
  | 0 => by simp
  | j + 1 => by
    rw [show j + 1 + m = (j + m) + 1 by omega, hexT_cons, hexT_pad m n h j, Nat.div_eq_of_lt (Nat.lt_of_lt_of_le h (Nat.pow_le_pow_right (by decide) (by omega)))]
    rfl
theorem repeat48 (j : Nat) : Lib.repeatL [48] j = List.replicate j 48 := by
  induction j with
  | zero => rfl
  | succ j ih => simp [Lib.repeatL, ih, List.replicate_succ]

set_option maxRecDepth 100000 in
theorem digText_any (n : Nat) (hn : n < 18446744073709551616) (w : World) (hT : Tabs w) :
    Calls Tryd.prog 17 #[.int .u64 n] w fun e w' => e = .returned (.string ⟨(hexT 16 n).toArray⟩) ∧ Below w.heap.size w w' := by
  have H := Lib.hid (format16_any n hn w hT)
  clear hn hT
  go_enter Tryd.func17, Tryd.ntmps17
  go_wp2_with fail
  go_fit H.out
  rintro e w1 ⟨m, h1, h2, h3, rfl, hb⟩
  have B := Lib.hid hb
  have HP := Lib.hid (hexT_pad m n h3 (16 - m))
  have hsz : (⟨(hexT m n).toArray⟩ : ByteArray).size = m := by show (hexT m n).toArray.size = m; simp [hexT_len]
  obtain ⟨s, hs⟩ : ∃ s : ByteArray, s = ⟨(hexT m n).toArray⟩ := ⟨_, rfl⟩
  rw [← hs] at hsz ⊢
  have HS := Lib.hid hs
  have R := Lib.hid (fun w => Tryd.strings_Repeat ⟨#[48]⟩ (16 - m) w (by omega) (by show 1 * _ ≤ _; omega))
  have hc : ((16 - m : Nat) : Int) = 16 - (m : Int) := by omega
  rw [hc] at R
  have htz : (⟨(Lib.repeatL [48] (16 - m)).toArray⟩ : ByteArray).size ≤ 16 := by show (Lib.repeatL [48] (16 - m)).toArray.size ≤ 16; rw [repeat48]; simp
  obtain ⟨t, ht⟩ : ∃ t : ByteArray, t = ⟨(Lib.repeatL [48] (16 - m)).toArray⟩ := ⟨_, rfl⟩
  rw [← ht] at R htz
  have hfin : t ++ s = ⟨(hexT 16 n).toArray⟩ := by
    rw [ht, HS.out, show 16 = 16 - m + m by omega, HP.out, repeat48]
    apply ByteArray.ext
    simp
  have HF := Lib.hid hfin
  have m0 : (1 : Int) ≤ m ∧ (m : Int) ≤ 16 := by omega
  clear hb h1 h2 h3 hs hc ht hfin
  go_wp2_with fail
  go_fit (R.out _)
  rintro e w2 ⟨rfl, hb⟩
  have B2 := Lib.hid (B.out.trans (hb.mono B.out.size))
  clear hb
  go_wp2_with fail
  go_ret
  exact ⟨by rw [← HF.out]; rfl, B2.out⟩
end Go.Proofs.YtoehpoodfbgdiaaDoor
