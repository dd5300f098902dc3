/- Contracts of package budget: When, for every bucket. -/
import Derived.Test.YtjeknocbndgikaaBudD
namespace Go.Proofs.Ytjeknocbndgikaa
open Go.RowKit Go.Lib

/-- What When returns. -/
def whO (r u l a t c : Int) : Option Int :=
  if !(okB r u l a && (tmB t && csB c)) then none
  else if 1000 * c - lvl r u l a t ≤ 0 then some (max a t)
  else if u < c ∨ r = 0 then none
  else if tmB (max a t + (1000 * c - lvl r u l a t + r - 1) / r) then some (max a t + (1000 * c - lvl r u l a t + r - 1) / r) else none
theorem ret_ib {a b : Int} {c d : Bool} (h : a = b) (k : c = d) : Ending.returned (.tuple #[.int .i64 a, .bool c]) = .returned (.tuple #[.int .i64 b, .bool d]) := by rw [h, k]

set_option maxHeartbeats 1000000 in
theorem When_any (r u l a t c : Int) (w : World) :
    Calls Try.prog 18 #[.agg #[.int .i64 r, .int .i64 u, .int .i64 l, .int .i64 a], .int .i64 t, .int .i64 c] w fun e w' => e = .returned (.tuple #[.int .i64 ((whO r u l a t c).getD 0), .bool (whO r u l a t c).isSome]) ∧ Below w.heap.size w w' := by
  have hs0 := hold4_new w (.int .i64 r) (.int .i64 u) (.int .i64 l) (.int .i64 a) 23
  cases h1 : okB r u l a
  · have V := Lib.hid (fun w => h1 ▸ valid_any r u l a w)
    have E := Lib.hid (show whO r u l a t c = none by unfold whO; rw [h1]; rfl)
    clear h1
    go_enter Try.func18, Try.ntmps18
    go_wp2_with fail
    go_fit (V.out _)
    rintro e w1 ⟨rfl, hb⟩
    have hs1 := hold4 hs0 hb
    have B1 := Lib.hid hs1
    obtain ⟨c0, c1, c2, c3, z1, z2, hb1⟩ := hs1
    clear hb hb1 hs0
    go_wp2_with fail
    go_ret2
    exact ⟨ret_ib (by rw [E.out]; rfl) (by rw [E.out]; rfl), hold4_below B1.out⟩
  cases h2 : tmB t
  · have V := Lib.hid (fun w => h1 ▸ valid_any r u l a w)
    have T := Lib.hid (fun w => h2 ▸ isTime_any t w)
    have E := Lib.hid (show whO r u l a t c = none by unfold whO; rw [h1, h2]; rfl)
    clear h1 h2
    go_enter Try.func18, Try.ntmps18
    go_wp2_with fail
    go_fit (V.out _)
    rintro e w1 ⟨rfl, hb⟩
    have hs1 := hold4 hs0 hb
    have B1 := Lib.hid hs1
    obtain ⟨c0, c1, c2, c3, z1, z2, hb1⟩ := hs1
    clear hb hb1 hs0
    go_wp2_with fail
    go_fit (T.out _)
    rintro e w2 ⟨rfl, rfl⟩
    go_wp2_with fail
    go_ret2
    exact ⟨ret_ib (by rw [E.out]; rfl) (by rw [E.out]; rfl), hold4_below B1.out⟩
  cases h3 : csB c
  · have V := Lib.hid (fun w => h1 ▸ valid_any r u l a w)
    have T := Lib.hid (fun w => h2 ▸ isTime_any t w)
    have C := Lib.hid (fun w => h3 ▸ isCost_any c w)
    have E := Lib.hid (show whO r u l a t c = none by unfold whO; rw [h1, h2, h3]; rfl)
    clear h1 h2 h3
    go_enter Try.func18, Try.ntmps18
    go_wp2_with fail
    go_fit (V.out _)
    rintro e w1 ⟨rfl, hb⟩
    have hs1 := hold4 hs0 hb
    have B1 := Lib.hid hs1
    obtain ⟨c0, c1, c2, c3, z1, z2, hb1⟩ := hs1
    clear hb hb1 hs0
    go_wp2_with fail
    go_fit (T.out _)
    rintro e w2 ⟨rfl, rfl⟩
    go_wp2_with fail
    go_fit (C.out _)
    rintro e w2 ⟨rfl, rfl⟩
    go_wp2_with fail
    go_ret2
    exact ⟨ret_ib (by rw [E.out]; rfl) (by rw [E.out]; rfl), hold4_below B1.out⟩
  have hc := csB_of h3
  have hu := okB_of h1
  have ht := tmB_of h2
  have hl := lvl_bd h1 h2
  have k1 : wrap64 (c * 1000) = 1000 * c := by unfold wrap64; omega
  have V := Lib.hid (fun w => h1 ▸ valid_any r u l a w)
  have T := Lib.hid (fun w => h2 ▸ isTime_any t w)
  have C := Lib.hid (fun w => h3 ▸ isCost_any c w)
  have F := Lib.hid (fun w => filled_any r u l a t h1 h2 w)
  have E0 : whO r u l a t c = if 1000 * c - lvl r u l a t ≤ 0 then some (max a t) else if u < c ∨ r = 0 then none
      else if tmB (max a t + (1000 * c - lvl r u l a t + r - 1) / r) then some (max a t + (1000 * c - lvl r u l a t + r - 1) / r) else none := by
    unfold whO; rw [h1, h2, h3]; rfl
  have hM : 0 ≤ max a t ∧ max a t ≤ 1125899906842624 := by omega
  have q2 := field2 r u (lvl r u l a t) (max a t)
  have q3 := field3 r u (lvl r u l a t) (max a t)
  rw [show whO r u l a t c = whO r u l a t c from rfl]
  generalize whO r u l a t c = O at E0 ⊢
  generalize lvl r u l a t = L at F E0 hl q2 q3
  generalize max a t = M at F E0 hM q2 q3
  have k2 : wrap64 (1000 * c - L) = 1000 * c - L := by unfold wrap64; omega
  clear h1 h2 h3 ht
  by_cases h4 : 1000 * c - L ≤ 0
  · rw [if_pos h4] at E0
    have E := Lib.hid E0
    clear E0 hc hu hl hM
    go_enter Try.func18, Try.ntmps18
    go_wp2_with fail
    go_fit (V.out _)
    rintro e w1 ⟨rfl, hb⟩
    have hs1 := hold4 hs0 hb
    have B1 := Lib.hid hs1
    obtain ⟨c0, c1, c2, c3, z1, z2, hb1⟩ := hs1
    clear hb hb1 hs0
    go_wp2_with fail
    go_fit (T.out _)
    rintro e w2 ⟨rfl, rfl⟩
    go_wp2_with fail
    go_fit (C.out _)
    rintro e w2 ⟨rfl, rfl⟩
    go_wp2_with fail
    go_fit (F.out _)
    rintro e w3 ⟨rfl, hb⟩
    have hs3 := hold4 B1.out hb
    clear c0 c1 c2 c3 z1 z2
    obtain ⟨c0, c1, c2, c3, z1, z2, hb1⟩ := hs3
    have B3 := Lib.hid hb1
    clear hb hb1
    go_wp2_with fail
    go_ret2
    exact ⟨ret_ib (by rw [E.out]; rfl) (by rw [E.out]; rfl), B3.out.alloc B3.out.size _⟩
  rw [if_neg h4] at E0
  by_cases h5 : u < c
  · rw [if_pos (Or.inl h5)] at E0
    have E := Lib.hid E0
    clear E0 hc hu hl hM
    go_enter Try.func18, Try.ntmps18
    go_wp2_with fail
    go_fit (V.out _)
    rintro e w1 ⟨rfl, hb⟩
    have hs1 := hold4 hs0 hb
    have B1 := Lib.hid hs1
    obtain ⟨c0, c1, c2, c3, z1, z2, hb1⟩ := hs1
    clear hb hb1 hs0
    go_wp2_with fail
    go_fit (T.out _)
    rintro e w2 ⟨rfl, rfl⟩
    go_wp2_with fail
    go_fit (C.out _)
    rintro e w2 ⟨rfl, rfl⟩
    go_wp2_with fail
    go_fit (F.out _)
    rintro e w3 ⟨rfl, hb⟩
    have hs3 := hold4 B1.out hb
    clear c0 c1 c2 c3 z1 z2
    obtain ⟨c0, c1, c2, c3, z1, z2, hb1⟩ := hs3
    have B3 := Lib.hid hb1
    clear hb hb1
    go_wp2_with fail
    go_ret2
    exact ⟨ret_ib (by rw [E.out]; rfl) (by rw [E.out]; rfl), B3.out.alloc B3.out.size _⟩
  by_cases h6 : r = 0
  · subst h6
    rw [if_pos (Or.inr rfl)] at E0
    have E := Lib.hid E0
    clear E0 hc hu hl hM
    go_enter Try.func18, Try.ntmps18
    go_wp2_with fail
    go_fit (V.out _)
    rintro e w1 ⟨rfl, hb⟩
    have hs1 := hold4 hs0 hb
    have B1 := Lib.hid hs1
    obtain ⟨c0, c1, c2, c3, z1, z2, hb1⟩ := hs1
    clear hb hb1 hs0
    go_wp2_with fail
    go_fit (T.out _)
    rintro e w2 ⟨rfl, rfl⟩
    go_wp2_with fail
    go_fit (C.out _)
    rintro e w2 ⟨rfl, rfl⟩
    go_wp2_with fail
    go_fit (F.out _)
    rintro e w3 ⟨rfl, hb⟩
    have hs3 := hold4 B1.out hb
    clear c0 c1 c2 c3 z1 z2
    obtain ⟨c0, c1, c2, c3, z1, z2, hb1⟩ := hs3
    have B3 := Lib.hid hb1
    clear hb hb1
    go_wp2_with fail
    go_ret2
    exact ⟨ret_ib (by rw [E.out]; rfl) (by rw [E.out]; rfl), B3.out.alloc B3.out.size _⟩
  rw [if_neg (by omega)] at E0
  have h7 : (r == 0) = false := by simpa using h6
  have k3 : wrap64 (1000 * c - L + r) = 1000 * c - L + r := by unfold wrap64; omega
  have k4 : wrap64 (1000 * c - L + r - 1) = 1000 * c - L + r - 1 := by unfold wrap64; omega
  have hq : 0 ≤ (1000 * c - L + r - 1) / r ∧ (1000 * c - L + r - 1) / r ≤ 1000000999 :=
    ⟨Int.ediv_nonneg (by omega) (by omega), Int.le_trans (Int.ediv_le_self _ (by omega)) (by omega)⟩
  have k5 : (1000 * c - L + r - 1).tdiv r = (1000 * c - L + r - 1) / r := Int.tdiv_eq_ediv_of_nonneg (by omega)
  obtain ⟨q, hqe⟩ : ∃ q, q = (1000 * c - L + r - 1) / r := ⟨_, rfl⟩
  rw [← hqe] at hq k5 E0
  have k6 : wrap64 q = q := by unfold wrap64; omega
  have k7 : wrap64 (M + q) = M + q := by unfold wrap64; omega
  have T2 := isTime_any (M + q)
  cases h8 : tmB (M + q)
  · rw [h8] at T2 E0
    have T2 := Lib.hid T2
    have E := Lib.hid (show O = none from E0)
    clear E0 hc hu hl hM hq hqe h8
    go_enter Try.func18, Try.ntmps18
    go_wp2_with fail
    go_fit (V.out _)
    rintro e w1 ⟨rfl, hb⟩
    have hs1 := hold4 hs0 hb
    have B1 := Lib.hid hs1
    obtain ⟨c0, c1, c2, c3, z1, z2, hb1⟩ := hs1
    clear hb hb1 hs0
    go_wp2_with fail
    go_fit (T.out _)
    rintro e w2 ⟨rfl, rfl⟩
    go_wp2_with fail
    go_fit (C.out _)
    rintro e w2 ⟨rfl, rfl⟩
    go_wp2_with fail
    go_fit (F.out _)
    rintro e w3 ⟨rfl, hb⟩
    have hs3 := hold4 B1.out hb
    clear c0 c1 c2 c3 z1 z2
    obtain ⟨c0, c1, c2, c3, z1, z2, hb1⟩ := hs3
    have B3 := Lib.hid hb1
    clear hb hb1
    go_wp2_with fail
    go_quiet (fail)
    go_wp2_with fail
    go_fit (T2.out _)
    rintro e w4 ⟨rfl, rfl⟩
    go_wp2_with fail
    go_ret2
    exact ⟨ret_ib (by rw [E.out]; rfl) (by rw [E.out]; rfl), below_drewN (B3.out.alloc B3.out.size _) _⟩
  · rw [h8] at T2 E0
    have T2 := Lib.hid T2
    have E := Lib.hid (show O = some (M + q) from E0)
    clear E0 hc hu hl hM hq hqe h8
    go_enter Try.func18, Try.ntmps18
    go_wp2_with fail
    go_fit (V.out _)
    rintro e w1 ⟨rfl, hb⟩
    have hs1 := hold4 hs0 hb
    have B1 := Lib.hid hs1
    obtain ⟨c0, c1, c2, c3, z1, z2, hb1⟩ := hs1
    clear hb hb1 hs0
    go_wp2_with fail
    go_fit (T.out _)
    rintro e w2 ⟨rfl, rfl⟩
    go_wp2_with fail
    go_fit (C.out _)
    rintro e w2 ⟨rfl, rfl⟩
    go_wp2_with fail
    go_fit (F.out _)
    rintro e w3 ⟨rfl, hb⟩
    have hs3 := hold4 B1.out hb
    clear c0 c1 c2 c3 z1 z2
    obtain ⟨c0, c1, c2, c3, z1, z2, hb1⟩ := hs3
    have B3 := Lib.hid hb1
    clear hb hb1
    go_wp2_with fail
    go_quiet (fail)
    go_wp2_with fail
    go_fit (T2.out _)
    rintro e w4 ⟨rfl, rfl⟩
    go_wp2_with fail
    go_ret2
    exact ⟨ret_ib (by rw [E.out]; rfl) (by rw [E.out]; rfl), below_drewN (B3.out.alloc B3.out.size _) _⟩
end Go.Proofs.Ytjeknocbndgikaa
