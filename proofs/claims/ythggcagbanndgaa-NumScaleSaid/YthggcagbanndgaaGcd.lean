/- Contracts of num.commonDivisor, num.Gcd and the document's Gcd: the greatest common divisor of any integers, limited to the range of int. -/
import Derived.Test.YthggcagbanndgaaRefA
namespace Go.Proofs.Ythggcagbanndgaa
open Go.RowKit Go.Lib Go.NumM

theorem natAbs64' {a : Int} (ha : I64 a) : a.natAbs ≤ 9223372036854775808 := by unfold I64 at ha; omega
def AtGcd (g : Nat) (w : World) (e : Ending) (w' : World) : Prop := e = .returned (.int .u64 (g : Int)) ∧ Below w.heap.size w w'

set_option maxHeartbeats 1000000 in
theorem commonDivisor_any (a b : Nat) (ha : a < 18446744073709551616) (hb : b < 18446744073709551616) (w : World) :
    Calls Try.prog 60 #[.int .u64 a, .int .u64 b] w (AtGcd (Nat.gcd a b) w) := by
  go_enter Try.func60, Try.ntmps60
  go_wp2_with fail
  go_loopw [0, 1] (fun s0 s1 wr => ∃ x y : Nat, Nat.gcd x y = Nat.gcd a b ∧ x < 18446744073709551616 ∧ y < 18446744073709551616 ∧ s0 = .int .u64 x ∧ s1 = .int .u64 y ∧ Below w.heap.size w wr) (fun _ s1 _ => (RowKit.intOf s1).toNat)
  case atStart => exact ⟨a, b, rfl, ha, hb, rfl, rfl, Below.refl _ _⟩
  case round =>
    obtain ⟨x, y, hg, hx, hy, rfl, rfl, hbel⟩ := hrel
    have HG := Lib.hid hg
    have HX := Lib.hid hx; have HY := Lib.hid hy
    have HB := Lib.hid hbel
    clear hg hbel hx hy ha hb
    by_cases h0 : y = 0
    · subst h0
      go_wp2_with fail
      go_ret
      exact ⟨ret_u64 (by rw [← HG.out, Nat.gcd_zero_right]), HB.out⟩
    · have t1 : ((y : Int) != 0) = true := by rw [bne_iff_ne]; omega
      have t2 : (1 : Int) ≤ y := by omega
      have H0 := Lib.hid (show 0 < y by omega)
      have em := Lib.hid (show (x : Int) % (y : Int) = ((x % y : Nat) : Int) by rw [Int.natCast_emod])
      clear h0
      go_wp2_with fail
      go_quiet (fail)
      go_wp2_with fail
      refine ⟨⟨y, x % y, ?_, HY.out, Nat.lt_of_le_of_lt (Nat.mod_le _ _) HX.out, rfl, by rw [em.out], below_drewN HB.out _⟩, ?_⟩
      · rw [← HG.out, Nat.gcd_comm y, ← Nat.gcd_rec, Nat.gcd_comm]
      · rw [em.out]
        simp only [RowKit.intOf]
        have := Nat.mod_lt x H0.out
        omega

/-- The greatest common divisor of a list. -/
def gcdL (L : List Int) : Nat := L.foldl (fun g n => Nat.gcd g n.natAbs) 0
def gcdOut (L : List Int) : Int := min (gcdL L : Int) 9223372036854775807
theorem gcdL_take (L : List Int) (k : Nat) (h : k < L.length) : gcdL (L.take (k + 1)) = Nat.gcd (gcdL (L.take k)) (L[k]).natAbs := by
  unfold gcdL
  rw [List.take_succ_eq_append_getElem h, List.foldl_append]
  rfl
theorem gcd_le64 (g m : Nat) (hg : g ≤ 9223372036854775808) (hm : m ≤ 9223372036854775808) : Nat.gcd g m ≤ 9223372036854775808 := by
  rcases Nat.eq_zero_or_pos g with h | h
  · rw [h, Nat.gcd_zero_left]; exact hm
  · exact Nat.le_trans (Nat.gcd_le_left _ h) hg
theorem gcdL_le (L : List Int) (h : ∀ n ∈ L, I64 n) : gcdL L ≤ 9223372036854775808 := by
  unfold gcdL
  suffices hh : ∀ (L : List Int) (g : Nat), (∀ n ∈ L, I64 n) → g ≤ 9223372036854775808 → L.foldl (fun g n => Nat.gcd g n.natAbs) g ≤ 9223372036854775808 from hh L 0 h (by omega)
  intro L
  induction L with
  | nil => intro g _ hg; exact hg
  | cons a L ih =>
    intro g hL hg
    have ha := hL a (by simp)
    exact ih _ (fun n hn => hL n (by simp [hn])) (gcd_le64 _ _ hg (by unfold I64 at ha; omega))

/-- A slice of ints reads as a list: nil, or cells in a block that is there. -/
def ReadsInts (w : World) (v : Option Addr) (L : List Int) : Prop :=
  ∀ k (h : k < L.length), ∃ b off, v = some ⟨b, off, none⟩ ∧ b < w.heap.size ∧ w.cell? ⟨b, off + k, none⟩ = some (.int .i64 L[k])

set_option maxHeartbeats 1000000 in
theorem Gcd_any (v : Option Addr) (cap : Nat) (L : List Int) (hL : ∀ n ∈ L, I64 n) (hlen : L.length ≤ 9223372036854775807) (w : World) (hr : ReadsInts w v L) :
    Calls Try.prog 26 #[.slice v L.length cap] w fun e w' => e = .returned (.int .i64 (gcdOut L)) ∧ Below w.heap.size w w' := by
  have HR := Lib.hid hr
  have HL := Lib.hid hL
  have hge := Lib.hid (gcdL_le L hL)
  clear hr hL
  go_enter Try.func26, Try.ntmps26
  go_wp2_with fail
  go_loopw [3, 5, 8] (fun s3 _ s8 wr => ∃ k : Nat, k ≤ L.length ∧ s3 = .int .u64 (gcdL (L.take k) : Nat) ∧ s8 = .int .i64 k ∧ Below w.heap.size w wr) (fun _ _ s8 _ => L.length - (RowKit.intOf s8).toNat)
  case atStart => exact ⟨0, Nat.zero_le _, rfl, rfl, Below.refl _ _⟩
  case round =>
    obtain ⟨k, hk, rfl, rfl, hbel⟩ := hrel
    have HB := Lib.hid hbel
    have hz := hbel.size
    have hgk := gcdL_le (L.take k) (fun n hn => HL.out n (List.mem_of_mem_take hn))
    obtain ⟨g, hg⟩ : ∃ g, g = gcdL (L.take k) := ⟨_, rfl⟩
    rw [← hg] at hgk ⊢
    have HG := Lib.hid hg
    have HGK := Lib.hid hgk
    clear hbel hg hgk
    by_cases hlt : k < L.length
    · obtain ⟨b, off, rfl, hb, hc⟩ := HR.out k hlt
      have hc' := (HB.out.cell (p := ⟨b, off + k, none⟩) hb).trans hc
      have hm := HL.out L[k] (List.getElem_mem hlt)
      have hgs := gcdL_take L k hlt
      obtain ⟨n, hn⟩ : ∃ n, n = L[k] := ⟨_, rfl⟩
      rw [← hn] at hc hc' hm hgs
      rw [← HG.out] at hgs
      have HM := Lib.hid hm
      have HGS := Lib.hid hgs
      clear hn hm hgs hc
      go_wp2_with fail
      go_fit (magnitude_any n HM.out _)
      rintro e w1 ⟨rfl, rfl⟩
      go_wp2_with fail
      go_fit (commonDivisor_any g n.natAbs (by have := HGK.out; omega) (by have := natAbs64' HM.out; omega) _)
      rintro e w2 ⟨rfl, hb2⟩
      have HB2 := Lib.hid (HB.out.trans (hb2.mono hz))
      clear hb2
      go_wp2_with fail
      exact ⟨⟨k + 1, by omega, by rw [HGS.out], by go_num, HB2.out⟩, by simp [RowKit.intOf]; omega⟩
    · obtain rfl : k = L.length := by omega
      go_wp2_with fail
      go_ret
      rw [List.take_length] at HG
      exact ⟨ret_int (by unfold gcdOut; rw [← HG.out]), HB.out⟩

set_option maxHeartbeats 1000000 in
theorem refGcd_any (v : Option Addr) (cap : Nat) (L : List Int) (hL : ∀ n ∈ L, I64 n) (hlen : L.length ≤ 9223372036854775807) (w : World) (hr : ReadsInts w v L) :
    Calls Try.prog 27 #[.slice v L.length cap] w fun e w' => e = .returned (.int .i64 (gcdOut L)) ∧ w = w' := by
  have HR := Lib.hid hr
  have HL := Lib.hid hL
  clear hr hL
  go_enter Try.func27, Try.ntmps27
  go_wp2_with fail
  go_loop [3, 4, 5, 6] (fun s3 s4 _ _ => ∃ k : Nat, k ≤ L.length ∧ s3 = .int .u64 (gcdL (L.take k) : Nat) ∧ s4 = .int .i64 k) (fun _ s4 _ _ => L.length - (RowKit.intOf s4).toNat)
  case atStart => exact ⟨0, Nat.zero_le _, rfl, rfl⟩
  case round =>
    obtain ⟨k, hk, rfl, rfl⟩ := hrel
    have hgk := gcdL_le (L.take k) (fun n hn => HL.out n (List.mem_of_mem_take hn))
    obtain ⟨g, hg⟩ : ∃ g, g = gcdL (L.take k) := ⟨_, rfl⟩
    rw [← hg] at hgk ⊢
    have HG := Lib.hid hg
    have HGK := Lib.hid hgk
    clear hg hgk
    by_cases hlt : k < L.length
    · obtain ⟨b, off, rfl, hb, hc⟩ := HR.out k hlt
      have hm := HL.out L[k] (List.getElem_mem hlt)
      have hgs := gcdL_take L k hlt
      obtain ⟨n, hn⟩ : ∃ n, n = L[k] := ⟨_, rfl⟩
      rw [← hn] at hc hm hgs
      rw [← HG.out] at hgs
      have HM := Lib.hid hm
      have HGS := Lib.hid hgs
      clear hn hm hgs
      go_wp2_with fail
      go_fit (Size_any n HM.out _)
      rintro e w1 ⟨rfl, rfl⟩
      obtain ⟨m, hm⟩ : ∃ m, m = n.natAbs := ⟨_, rfl⟩
      rw [← hm]
      have HMM := Lib.hid hm
      clear hm
      go_wp2_with fail
      go_loop [3, 5, 6] (fun s3 s5 _ => ∃ x y : Nat, Nat.gcd x y = Nat.gcd g m ∧ x ≤ 9223372036854775808 ∧ y ≤ 9223372036854775808 ∧ s3 = .int .u64 x ∧ s5 = .int .u64 y) (fun _ s5 _ => (RowKit.intOf s5).toNat)
      case atStart => exact ⟨g, m, rfl, HGK.out, by rw [HMM.out]; exact natAbs64' HM.out, rfl, rfl⟩
      case round =>
        obtain ⟨x, y, hgg, hx, hy, rfl, rfl⟩ := hrel
        have HGG := Lib.hid hgg
        have HX := Lib.hid hx; have HY := Lib.hid hy
        clear hgg hx hy
        by_cases h0 : y = 0
        · subst h0
          have HGG2 := Lib.hid (show x = Nat.gcd g m by rw [← HGG.out, Nat.gcd_zero_right])
          clear HGG
          go_wp2_with fail
          exact ⟨⟨k + 1, by omega, by rw [HGS.out, HGG2.out, HMM.out], by go_num⟩, by simp [RowKit.intOf]; omega⟩
        · have t1 : ((y : Int) != 0) = true := by rw [bne_iff_ne]; omega
          have t2 : (1 : Int) ≤ y := by omega
          have H0 := Lib.hid (show 0 < y by omega)
          have em := Lib.hid (show (x : Int) % (y : Int) = ((x % y : Nat) : Int) by rw [Int.natCast_emod])
          clear h0
          go_wp2_with fail
          refine ⟨⟨y, x % y, ?_, HY.out, Nat.le_trans (Nat.mod_le _ _) HX.out, rfl, by rw [em.out]⟩, ?_⟩
          · rw [← HGG.out, Nat.gcd_comm y, ← Nat.gcd_rec, Nat.gcd_comm]
          · rw [em.out]
            simp only [RowKit.intOf]
            have := Nat.mod_lt x H0.out
            omega
    · obtain rfl : k = L.length := by omega
      rw [List.take_length] at HG
      by_cases hb : 9223372036854775807 < g
      · have t1 : decide ((9223372036854775807 : Int) < (g : Int)) = true := by simp; omega
        have H1 := Lib.hid (show gcdOut L = 9223372036854775807 by unfold gcdOut; rw [← HG.out]; omega)
        clear hb
        go_wp2_with fail
        go_ret
        exact ⟨ret_int (by rw [H1.out]), rfl⟩
      · have t1 : decide ((9223372036854775807 : Int) < (g : Int)) = false := by simp; omega
        have t2 : (g : Int) ≤ 9223372036854775807 := by omega
        have H1 := Lib.hid (show gcdOut L = g by unfold gcdOut; rw [← HG.out]; omega)
        clear hb
        go_wp2_with fail
        go_ret
        exact ⟨ret_int (by rw [H1.out]), rfl⟩
end Go.Proofs.Ythggcagbanndgaa
