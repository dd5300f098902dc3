/- Contracts of octets.TakeInt and of the document's. -/
import Derived.Test.YtfnjemocekgncaaOctC
namespace Go.Proofs.Ytfnjemocekgncaa
open Go.RowKit Go.Lib

theorem ret3_iii {a b c a' b' c' : Int} (h1 : a = a') (h2 : b = b') (h3 : c = c') : Ending.returned (.tuple #[.int .i64 a, .int .i64 b, .int .i64 c]) = .returned (.tuple #[.int .i64 a', .int .i64 b', .int .i64 c']) := by rw [h1, h2, h3]

theorem takeFrom_facts : ∀ (l : List UInt8) (i acc : Nat), i ≤ 9 → acc < 128 ^ i →
    (takeFrom i acc l).1 < 18446744073709551616 ∧ ((takeFrom i acc l).2.2 ≠ 0 → (takeFrom i acc l).1 = 0 ∧ (takeFrom i acc l).2.1 = 0) ∧ (takeFrom i acc l).2.1 ≤ i + l.length
  | [], i, acc, hi, ha => by simp [takeFrom]
  | b :: r, i, acc, hi, ha => by
    unfold takeFrom
    have hb := b.toNat_lt
    by_cases h9 : i = 9 ∧ 1 < b.toNat
    · rw [if_pos h9]; simp
    · rw [if_neg h9]
      by_cases h0 : 0 < i ∧ b.toNat = 0
      · rw [if_pos h0]; simp
      · rw [if_neg h0]
        have hv : i = 9 → b.toNat % 128 ≤ 1 := by intro h; have : ¬ 1 < b.toNat := fun k => h9 ⟨h, k⟩; omega
        obtain ⟨_, o2, o3⟩ := or_group acc (b.toNat % 128) i hi (by omega) hv ha
        by_cases k1 : b.toNat < 128
        · rw [if_pos k1]
          refine ⟨o2, by simp, ?_⟩
          simp only [List.length_cons]
          omega
        · rw [if_neg k1]
          have hi8 : i < 9 := by
            by_cases h : i = 9
            · exfalso; apply h9; exact ⟨h, by omega⟩
            · omega
          obtain ⟨f1, f2, f3⟩ := takeFrom_facts r (i + 1) _ (by omega) (o3 hi8)
          refine ⟨f1, f2, ?_⟩
          simp only [List.length_cons]
          omega
theorem take_facts (l : List UInt8) : (take l).1 < 18446744073709551616 ∧ ((take l).2.2 ≠ 0 → (take l).1 = 0 ∧ (take l).2.1 = 0) ∧ (take l).2.1 ≤ l.length := by
  obtain ⟨a, b, c⟩ := takeFrom_facts l 0 0 (by omega) (by decide)
  exact ⟨a, b, Nat.le_trans c (by omega)⟩

/-- The int of a signed varint's number. -/
def unzig (u : Nat) : Int := if u % 2 = 1 then -((u / 2 : Nat) : Int) - 1 else ((u / 2 : Nat) : Int)

set_option maxHeartbeats 4000000 in
theorem TakeInt_any (v : Option Addr) (cap : Nat) (l : List UInt8) (hlen : l.length ≤ 9223372036854775807) (w : World) (hr : ReadsBytes w v l) :
    Calls Try.prog 16 #[.slice v l.length cap] w fun e w' => e = .returned (.tuple #[.int .i64 (unzig (take l).1), .int .i64 (take l).2.1, .int .i64 (take l).2.2]) ∧ w = w' := by
  have hT := TakeUint_any v cap l hlen w hr
  obtain ⟨h1, h2, _⟩ := take_facts l
  obtain ⟨⟨u, k, e⟩, ht⟩ : ∃ t, t = take l := ⟨_, rfl⟩
  rw [← ht] at hT h1 h2 ⊢
  simp only at hT h1 h2 ⊢
  have HT := Lib.hid hT
  clear hT hr ht
  by_cases he : e = 0
  · have u1 : ((e : Int) != 0) = false := by rw [bne_eq_false_iff_eq]; omega
    have HE := Lib.hid he
    have b1 : (0 : Int) ≤ u ∧ (u : Int) ≤ 18446744073709551615 := by omega
    clear he h1 h2
    by_cases hu : u % 2 = 1
    · have u2 : ((u : Int) % 2 == 1) = true := by rw [beq_iff_eq]; omega
      have E := Lib.hid (show unzig u = -((u / 2 : Nat) : Int) - 1 from if_pos hu)
      clear hu
      go_enter Try.func16, Try.ntmps16
      go_wp2_with fail
      go_fit (HT.out)
      rintro e w1 ⟨rfl, rfl⟩
      go_wp2_with fail
      go_ret3
      exact ⟨ret3_iii (by rw [E.out]; omega) rfl (by rw [HE.out]; rfl), rfl⟩
    · have u2 : ((u : Int) % 2 == 1) = false := by rw [beq_eq_false_iff_ne]; omega
      have E := Lib.hid (show unzig u = ((u / 2 : Nat) : Int) from if_neg hu)
      clear hu
      go_enter Try.func16, Try.ntmps16
      go_wp2_with fail
      go_fit (HT.out)
      rintro e w1 ⟨rfl, rfl⟩
      go_wp2_with fail
      go_ret3
      exact ⟨ret3_iii (by rw [E.out]; omega) rfl (by rw [HE.out]; rfl), rfl⟩
  · have u1 : ((e : Int) != 0) = true := by rw [bne_iff_ne]; omega
    obtain ⟨rfl, rfl⟩ := h2 he
    clear he h1 h2
    go_enter Try.func16, Try.ntmps16
    go_wp2_with fail
    go_fit (HT.out)
    rintro e w1 ⟨rfl, rfl⟩
    go_wp2_with fail
    go_ret3
    exact ⟨ret3_iii (by decide) rfl rfl, rfl⟩

set_option maxHeartbeats 4000000 in
theorem refTakeInt_any (v : Option Addr) (cap : Nat) (l : List UInt8) (hlen : l.length ≤ 9223372036854775807) (w : World) (hr : ReadsBytes w v l) :
    Calls Try.prog 18 #[.slice v l.length cap] w fun e w' => e = .returned (.tuple #[.int .i64 (unzig (take l).1), .int .i64 (take l).2.1, .int .i64 (take l).2.2]) ∧ w = w' := by
  have hT := refTakeUint_any v cap l hlen w hr
  obtain ⟨h1, _, _⟩ := take_facts l
  obtain ⟨⟨u, k, e⟩, ht⟩ : ∃ t, t = take l := ⟨_, rfl⟩
  rw [← ht] at hT h1 ⊢
  simp only at hT h1 ⊢
  have HT := Lib.hid hT
  clear hT hr ht
  have b1 : (0 : Int) ≤ u ∧ (u : Int) ≤ 18446744073709551615 := by omega
  clear h1
  by_cases hu : u % 2 = 1
  · have u2 : ((u : Int) % 2 == 1) = true := by rw [beq_iff_eq]; omega
    have E := Lib.hid (show unzig u = -((u / 2 : Nat) : Int) - 1 from if_pos hu)
    clear hu
    go_enter Try.func18, Try.ntmps18
    go_wp2_with fail
    go_fit (HT.out)
    rintro e w1 ⟨rfl, rfl⟩
    go_wp2_with fail
    go_ret3
    exact ⟨ret3_iii (by rw [E.out]; omega) rfl rfl, rfl⟩
  · have u2 : ((u : Int) % 2 == 1) = false := by rw [beq_eq_false_iff_ne]; omega
    have E := Lib.hid (show unzig u = ((u / 2 : Nat) : Int) from if_neg hu)
    clear hu
    go_enter Try.func18, Try.ntmps18
    go_wp2_with fail
    go_fit (HT.out)
    rintro e w1 ⟨rfl, rfl⟩
    go_wp2_with fail
    go_ret3
    exact ⟨ret3_iii (by rw [E.out]; omega) rfl rfl, rfl⟩
end Go.Proofs.Ytfnjemocekgncaa
