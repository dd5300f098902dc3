/- The contract of the document's Of (digest), and how a slice of digests lies in memory. -/
import Derived.Test.YtoehpoodfbgdiaaDoorDigC
namespace Go.Proofs.YtoehpoodfbgdiaaDoor
open Go.RowKit Go.Lib

/-- The k lowest bytes of a number, the least significant one first. -/
def leB : Nat → Nat → List UInt8
  | 0, _ => []
  | k + 1, n => (n % 256).toUInt8 :: leB k (n / 256)
theorem leB_len : ∀ k n, (leB k n).length = k
  | 0, _ => rfl
  | k + 1, n => by rw [leB, List.length_cons, leB_len]
/-- The bytes of which Of is the Sum. -/
def ofBytes (s : ByteArray) (ps : List Nat) : List UInt8 := s.data.toList ++ [0] ++ ps.flatMap (leB 8)
def ReadsU (w : World) (v : Option Addr) (l : List Nat) : Prop :=
  ∀ k (h : k < l.length), ∃ b off, v = some ⟨b, off, none⟩ ∧ b < w.heap.size ∧ w.cell? ⟨b, off + k, none⟩ = some (.int .u64 (l[k] : Nat)) ∧ l[k] < 18446744073709551616
theorem ReadsU.below {w w' : World} {v : Option Addr} {l : List Nat} (h : ReadsU w v l) (hb : Below w.heap.size w w') : ReadsU w' v l := by
  intro k hk
  obtain ⟨b, off, e, hlt, hc, hu⟩ := h k hk
  exact ⟨b, off, e, Nat.lt_of_lt_of_le hlt hb.size, (hb.cell (p := ⟨b, off + k, none⟩) hlt).trans hc, hu⟩
theorem leB_snoc : ∀ k n, leB (k + 1) n = leB k n ++ [(n / 256 ^ k % 256).toUInt8]
  | 0, n => by simp [leB]
  | k + 1, n => by
    rw [leB, leB_snoc k (n / 256), leB, List.cons_append, Nat.div_div_eq_div_mul, Nat.pow_succ, Nat.mul_comm 256]
theorem ofBytes_len (s : ByteArray) (ps : List Nat) : (ofBytes s ps).length = s.size + 1 + 8 * ps.length := by
  have h : ∀ ps : List Nat, (ps.flatMap (leB 8)).length = 8 * ps.length := by
    intro ps
    induction ps with
    | nil => rfl
    | cons p ps ih => rw [List.flatMap_cons, List.length_append, ih, leB_len, List.length_cons]; omega
  have e : s.data.toList.length = s.size := by rw [Array.length_toList]; rfl
  unfold ofBytes
  rw [List.length_append, List.length_append, h, e]
  rfl
theorem flat_takeN (g : Nat → List UInt8) (l : List Nat) (j : Nat) (h : j < l.length) : (l.take (j + 1)).flatMap g = (l.take j).flatMap g ++ g l[j] := by
  rw [List.take_succ_eq_append_getElem h, List.flatMap_append]
  simp

set_option maxHeartbeats 4000000 in
set_option maxRecDepth 100000 in
theorem refOf_any (s : ByteArray) (v : Option Addr) (cap : Nat) (ps : List Nat) (hs : s.size ≤ 1099511627776) (hp : ps.length ≤ 1099511627776) (w : World) (hr : ReadsU w v ps) :
    Calls Tryd.prog 16 #[.string s, .slice v ps.length cap] w fun e w' => e = .returned (.int .u64 (sumN (ofBytes s ps) : Nat)) ∧ Below w.heap.size w w' := by
  obtain ⟨i0, hi, hz0, hz1, hz2⟩ := info_parts info8
  have HR := Lib.hid hr
  clear hr
  go_enter Tryd.func16, Tryd.ntmps16
  go_wp2_with fail
  go_loopw [5, 6] (fun s5 s6 wr => ∃ k : Nat, k ≤ s.size ∧ s6 = .int .i64 k ∧ wr.ownsRow w.heap.size 5 1 s5 k (Lib.byteCells (s.data.toList.take k)) ∧ Below w.heap.size w wr) (fun _ s6 _ => s.size - (RowKit.intOf s6).toNat)
  case atStart => exact ⟨0, by omega, rfl, World.ownsRow_nil _ _ _ _, Below.refl _ _⟩
  case round =>
    obtain ⟨k, hk, rfl, hown, hbel⟩ := hrel
    have hz := hbel.size
    have HB := Lib.hid hbel
    have HOW := Lib.hid hown
    clear hown hbel
    by_cases hlt : k < s.size
    · have ht := take_snoc s k hlt
      have HT := Lib.hid ht
      have HOA := Lib.hid (HOW.out.alloc (Obj.cells #[.int .u8 (s[k].toNat : Int)] 5))
      have HBA := Lib.hid (HB.out.alloc hz (Obj.cells #[.int .u8 (s[k].toNat : Int)] 5))
      clear ht
      go_wp2_with (at_builtin; refine wpList_append_own _ rfl _ _ 27 rfl w.heap.size 5 i0 (.int .u8 0) 1 1 Tryd.underlying27 hi hz0 hz1 hz2 rfl (by decide) _ _ _ rfl HOA.out ⟨wr.heap.size, 0, none⟩ 1 1 [Value.int .u8 (s[k].toNat : Int)] rfl rfl ?c1 ?c2 ?c3 ?c4 ?c5 ?_)
      case c1 =>
        intro j u hj
        match j, hj with
        | 0, hj => simp at hj; subst hj; simp [Addr.add]
      case c2 => intro u hu; simp at hu; subst hu; rfl
      case c3 => unfold maxLen; omega
      case c4 => omega
      case c5 => simp; omega
      intro v' w1 hown' hgrow _
      have HO1 := Lib.hid (show w1.ownsRow w.heap.size 5 1 v' (k + 1) (Lib.byteCells (s.data.toList.take (k + 1))) by rw [HT.out, byteCells_one]; exact hown')
      have HB1 := Lib.hid (HBA.out.grown hgrow (by simp; omega) (fun k hk => (HOA.out.lt k hk).1))
      clear hown' hgrow
      go_wp2_with fail
      exact ⟨⟨k + 1, by omega, by go_num, HO1.out, HB1.out⟩, by simp [RowKit.intOf]; omega⟩
    · obtain rfl : k = s.size := by omega
      have HO0 := Lib.hid (show wr.ownsRow w.heap.size 5 1 u5 s.size (Lib.byteCells s.data.toList) by
        have := HOW.out
        rwa [List.take_of_length_le (by rw [Array.length_toList]; exact Nat.le_refl _)] at this)
      have HOA := Lib.hid (HO0.out.alloc (Obj.cells #[.int .u8 0] 5))
      have HBA := Lib.hid (HB.out.alloc hz (Obj.cells #[.int .u8 0] 5))
      go_wp2_with (at_builtin; refine wpList_append_own _ rfl _ _ 27 rfl w.heap.size 5 i0 (.int .u8 0) 1 1 Tryd.underlying27 hi hz0 hz1 hz2 rfl (by decide) _ _ _ rfl HOA.out ⟨wr.heap.size, 0, none⟩ 1 1 [Value.int .u8 0] rfl rfl ?d1 ?d2 ?d3 ?d4 ?d5 ?_)
      case d1 =>
        intro j u hj
        match j, hj with
        | 0, hj => simp at hj; subst hj; simp [Addr.add]
      case d2 => intro u hu; simp at hu; subst hu; rfl
      case d3 => unfold maxLen; omega
      case d4 => omega
      case d5 => simp; omega
      intro v' w1 hown' hgrow _
      have HO1 := Lib.hid (show w1.ownsRow w.heap.size 5 1 v' (s.data.toList ++ [0]).length (Lib.byteCells (s.data.toList ++ [0])) by
        rw [byteCells_one, List.length_append, Array.length_toList]; exact hown')
      have HB1 := Lib.hid (HBA.out.grown hgrow (by simp; omega) (fun k hk => (HOA.out.lt k hk).1))
      clear hown' hgrow HOA HBA HO0 HOW HB
      go_wp2_with fail
      have hpl : (s.data.toList ++ [0]).length = s.size + 1 := by rw [List.length_append, Array.length_toList]; rfl
      obtain ⟨pre, hpre⟩ : ∃ pre, pre = s.data.toList ++ [0] := ⟨_, rfl⟩
      have HF := Lib.hid (show ofBytes s ps = pre ++ ps.flatMap (leB 8) by rw [hpre]; rfl)
      rw [← hpre] at HO1 hpl
      clear hpre
      have hfl : ∀ j, j ≤ ps.length → ((ps.take j).flatMap (leB 8)).length = 8 * j := by
        intro j hj
        have h1 := ofBytes_len ⟨#[]⟩ (ps.take j)
        have e : (ofBytes ⟨#[]⟩ (ps.take j)).length = 1 + ((ps.take j).flatMap (leB 8)).length := by simp [ofBytes]; omega
        rw [e, List.length_take] at h1
        have e2 : (⟨#[]⟩ : ByteArray).size = 0 := rfl
        rw [e2] at h1
        omega
      have HFL := Lib.hid hfl
      clear hfl
      go_loopw [5, 7, 8, 9] (fun s5 s7 _ _ wr => ∃ j : Nat, j ≤ ps.length ∧ s7 = .int .i64 j ∧ wr.ownsRow w.heap.size 5 1 s5 (pre ++ (ps.take j).flatMap (leB 8)).length (Lib.byteCells (pre ++ (ps.take j).flatMap (leB 8))) ∧ Below w.heap.size w wr) (fun _ s7 _ _ _ => ps.length - (RowKit.intOf s7).toNat)
      case atStart => exact ⟨0, by omega, rfl, by simpa using HO1.out, HB1.out⟩
      case round =>
        obtain ⟨j, hj, rfl, hown, hbel⟩ := hrel
        have hzo := hbel.size
        have HB2 := Lib.hid hbel
        have HO2 := Lib.hid hown
        clear hown hbel HO1 HB1
        by_cases hlt : j < ps.length
        · obtain ⟨b, off, rfl, hb, hc, hu⟩ := HR.out.below HB2.out j hlt
          have hft := flat_takeN (leB 8) ps j hlt
          obtain ⟨q, hq⟩ : ∃ q, q = ps[j] := ⟨_, rfl⟩
          rw [← hq] at hc hu hft
          have hdl : (pre ++ (ps.take j).flatMap (leB 8)).length = s.size + 1 + 8 * j := by rw [List.length_append, hpl, HFL.out j hj]
          obtain ⟨d, hd⟩ : ∃ d, d = pre ++ (ps.take j).flatMap (leB 8) := ⟨_, rfl⟩
          have HN := Lib.hid (show pre ++ (ps.take (j + 1)).flatMap (leB 8) = d ++ leB 8 q by rw [hft, hd, List.append_assoc])
          rw [← hd] at HO2 hdl
          clear hq hft hd
          obtain ⟨wo, rfl⟩ : ∃ wo : World, wo = wr := ⟨_, rfl⟩
          go_wp2_with fail
          go_loopw [5, 8, 9] (fun s5 s8 s9 wi => ∃ k x : Nat, k ≤ 8 ∧ x < 18446744073709551616 ∧ x = q / 256 ^ k ∧ s9 = .int .i64 k ∧ s8 = .int .u64 x ∧ wi.ownsRow w.heap.size 5 1 s5 (d ++ leB k q).length (Lib.byteCells (d ++ leB k q)) ∧ Below w.heap.size w wi) (fun _ _ s9 _ => 8 - (RowKit.intOf s9).toNat)
          case atStart => exact ⟨0, q, by omega, hu, by simp, rfl, rfl, by simpa [leB] using HO2.out, HB2.out⟩
          case round =>
            obtain ⟨k, x, hk, hx, hxe, rfl, rfl, hown, hbel⟩ := hrel
            have hz3 := hbel.size
            have HB3 := Lib.hid hbel
            have HO3 := Lib.hid hown
            have HX := Lib.hid hxe
            clear hown hbel HO2 HB2 hxe
            have hwl : (d ++ leB k q).length = s.size + 1 + 8 * j + k := by rw [List.length_append, leB_len, hdl]
            by_cases h8 : k = 8
            · subst h8
              go_wp2_with fail
              exact ⟨⟨j + 1, by omega, by go_num, by rw [HN.out]; exact HO3.out, HB3.out⟩, by simp [RowKit.intOf]; omega⟩
            · have hsn : d ++ leB (k + 1) q = (d ++ leB k q) ++ [(x % 256).toUInt8] := by rw [leB_snoc, HX.out, List.append_assoc]
              have HSN := Lib.hid hsn
              have hx0 : (0 : Int) ≤ x ∧ (x : Int) ≤ 18446744073709551615 := by omega
              have hk8 : (k : Int) < 8 := by omega
              clear hsn
              obtain ⟨y, hy⟩ : ∃ y, y = x % 256 := ⟨_, rfl⟩
              have hy0 : (x : Int) % 256 = (y : Int) := by omega
              have hy9 : y < 256 := by omega
              have HOA := Lib.hid (HO3.out.alloc (Obj.cells #[.int .u8 (y : Int)] 5))
              have HBA := Lib.hid (HB3.out.alloc hz3 (Obj.cells #[.int .u8 (y : Int)] 5))
              have HY := Lib.hid hy
              clear hy h8 hk hx
              go_wp2_with (at_builtin; refine wpList_append_own _ rfl _ _ 27 rfl w.heap.size 5 i0 (.int .u8 0) 1 1 Tryd.underlying27 hi hz0 hz1 hz2 rfl (by decide) _ _ _ rfl HOA.out ⟨wr.heap.size, 0, none⟩ 1 1 [Value.int .u8 (y : Int)] rfl rfl ?e1 ?e2 ?e3 ?e4 ?e5 ?_)
              case e1 =>
                intro j u hj
                match j, hj with
                | 0, hj => simp at hj; subst hj; simp [Addr.add]
              case e2 => intro u hu; simp at hu; subst hu; rfl
              case e3 => unfold maxLen; omega
              case e4 => omega
              case e5 => simp; omega
              intro v6 w6 ho6 hg6 _
              have HO6 := Lib.hid (show w6.ownsRow w.heap.size 5 1 v6 (d ++ leB (k + 1) q).length (Lib.byteCells (d ++ leB (k + 1) q)) by
                rw [HSN.out, byteCells_one, List.length_append, toUInt8_toNat (by omega), ← HY.out, hwl]
                exact ho6)
              have HB6 := Lib.hid (HBA.out.grown hg6 (by simp; omega) (fun k hk => (HOA.out.lt k hk).1))
              clear ho6 hg6
              go_wp2_with fail
              exact ⟨⟨k + 1, x / 256, by omega, by omega, by rw [HX.out, Nat.div_div_eq_div_mul, Nat.pow_succ], by go_num, by go_num, HO6.out, HB6.out⟩, by simp [RowKit.intOf]; omega⟩
        · obtain rfl : j = ps.length := by omega
          have HE := Lib.hid (show pre ++ (ps.take ps.length).flatMap (leB 8) = ofBytes s ps by rw [List.take_length, HF.out])
          rw [HE.out] at HO2
          obtain ⟨a1, c1, rfl, _, _, hr1⟩ := own_reads (l := ofBytes s ps) HO2.out rfl
          have hol := ofBytes_len s ps
          have T := Lib.hid (refSum_any a1 c1 (ofBytes s ps) (by omega) wr hr1)
          clear hr1 hol
          go_wp2_with fail
          go_fit (T.out)
          rintro e w5 ⟨rfl, rfl⟩
          go_wp2_with fail
          go_ret
          exact ⟨rfl, HB2.out⟩
end Go.Proofs.YtoehpoodfbgdiaaDoor
