/- Contract of the program's group (digest): the number that at most eight bytes form. -/
import Derived.Test.YtoehpoodfbgdiaaDoorDigPb
import Derived.Test.YtoehpoodfbgdiaaDoorDigC
namespace Go.Proofs.YtoehpoodfbgdiaaDoor
open Go.RowKit Go.Lib

theorem leN_snoc : ∀ (i : Nat) (l : List UInt8) (h : i < l.length), leN (i + 1) l = leN i l + l[i].toNat * 256 ^ i
  | _, [], h => by simp at h
  | 0, b :: r, _ => by simp [leN]
  | i + 1, b :: r, h => by
    have hi : i < r.length := by simpa using h
    rw [leN, leN_snoc i r hi, leN, Nat.pow_succ, List.getElem_cons_succ, Nat.mul_add]
    rw [show r[i].toNat * (256 ^ i * 256) = 256 * (r[i].toNat * 256 ^ i) by rw [Nat.mul_comm, Nat.mul_comm (256 ^ i), Nat.mul_assoc, Nat.mul_comm (256 ^ i)]]
    omega
theorem leN_all : ∀ (n : Nat) (l : List UInt8), l.length ≤ n → leN n l = leN l.length l
  | n, [], _ => by rw [leN_nil, leN_nil]
  | 0, b :: r, h => by simp at h
  | n + 1, b :: r, h => by rw [leN, List.length_cons, leN, leN_all n r (by simpa using h)]
/-- A number below 2^n and the multiple of 2^n above it. -/
theorem or_top (n g c d : Nat) (hg : g < 2 ^ n) (hd : d = 2 ^ n * c) (hd' : d < 2 ^ 64) (hn : n ≤ 64) : bits .or .u64 (g : Int) (d : Int) = ((g + d : Nat) : Int) := by
  have hg64 : g < 2 ^ 64 := Nat.lt_of_lt_of_le hg (Nat.pow_le_pow_right (by decide) hn)
  have hx : g ||| d < 2 ^ 64 := Nat.or_lt_two_pow hg64 hd'
  have h1 : (BitVec.ofInt 64 (g : Int)).toNat = g := by
    rw [BitVec.ofInt_natCast, BitVec.toNat_ofNat]; exact Nat.mod_eq_of_lt hg64
  have h2 : (BitVec.ofInt 64 (d : Int)).toNat = d := by
    rw [BitVec.ofInt_natCast, BitVec.toNat_ofNat]; exact Nat.mod_eq_of_lt hd'
  show IntKind.u64.wrap ((BitVec.ofInt 64 (g : Int) ||| BitVec.ofInt 64 (d : Int)).toNat : Int) = _
  rw [BitVec.toNat_or, h1, h2, IntKind.wrap_u64]
  have := Nat.two_pow_add_eq_or_of_lt (i := n) hg c
  rw [← hd, Nat.or_comm, Nat.add_comm] at this
  rw [← this] at hx ⊢
  omega

set_option maxHeartbeats 2000000 in
set_option maxRecDepth 100000 in
theorem group_any (v : Option Addr) (cap : Nat) (l : List UInt8) (hl : l.length ≤ 8) (w : World) (hr : ReadsBytes w v l) :
    Calls Tryd.prog 28 #[.slice v l.length cap] w fun e w' => e = .returned (.int .u64 (leN 8 l : Nat)) ∧ w = w' := by
  have HR := Lib.hid hr
  have HL := Lib.hid hl
  clear hr
  go_enter Tryd.func28, Tryd.ntmps28
  go_wp2_with fail
  go_loop [3, 8] (fun s3 s8 => ∃ i : Nat, i ≤ l.length ∧ s8 = .int .i64 (i : Int) ∧ s3 = .int .u64 (leN i l : Nat)) (fun _ s8 => l.length - (RowKit.intOf s8).toNat)
  case atStart => exact ⟨0, by omega, rfl, rfl⟩
  case round =>
    obtain ⟨i, hi, rfl, rfl⟩ := hrel
    by_cases hn : i = l.length
    · have he := leN_all 8 l HL.out
      rw [← hn] at he
      have HE := Lib.hid he
      have HNN := Lib.hid hn
      have hn2 : ¬ (i : Int) < (l.length : Int) := by omega
      clear he hn hi hl
      go_wp2_with fail
      go_ret
      exact ⟨by rw [HE.out]; rfl, rfl⟩
    · have hlt : i < l.length := by omega
      have hs := leN_snoc i l hlt
      have hg := leN_lt i l
      obtain ⟨b, off, rfl, _, hc⟩ := HR.out i hlt
      have hbb := l[i].toNat_lt
      obtain ⟨c, hcc⟩ : ∃ c, c = l[i].toNat := ⟨_, rfl⟩
      rw [← hcc] at hc hs hbb
      obtain ⟨g, hgg⟩ : ∃ g, g = leN i l := ⟨_, rfl⟩
      rw [← hgg] at hs hg ⊢
      have HI := Lib.hid hlt
      have hin : (i : Int) < (l.length : Int) := by omega
      clear hgg hcc hn
      have hi8 : i < 8 := by omega
      rcases (show i = 0 ∨ i = 1 ∨ i = 2 ∨ i = 3 ∨ i = 4 ∨ i = 5 ∨ i = 6 ∨ i = 7 by omega) with rfl | rfl | rfl | rfl | rfl | rfl | rfl | rfl
      · have ho := or_top 0 g c (1 * c) hg rfl (by omega) (by omega)
        rw [show ((1 * c : Nat) : Int) = (c : Int) by omega] at ho
        have HS := Lib.hid hs
        have hg0 : (0 : Int) ≤ g ∧ (g : Int) ≤ 0 := by omega
        have hc0 : (0 : Int) ≤ c ∧ (c : Int) ≤ 255 := by omega
        rw [Nat.add_zero] at hc
        clear hs hg hbb hi hlt hi8 hl
        go_wp2_with fail
        go_round
        case rel => exact ⟨0 + 1, by have := HI.out; omega, rfl, by rw [HS.out]; go_num⟩
        case measure => have := HI.out; simp [RowKit.intOf]; omega
      · have ho := or_top 8 g c (256 * c) hg rfl (by omega) (by omega)
        rw [show ((256 * c : Nat) : Int) = ((c : Int) * 256) by omega] at ho
        have HS := Lib.hid hs
        have hg0 : (0 : Int) ≤ g ∧ (g : Int) ≤ 255 := by omega
        have hc0 : (0 : Int) ≤ c ∧ (c : Int) ≤ 255 := by omega
        clear hs hg hbb hi hlt hi8 hl
        go_wp2_with fail
        go_round
        case rel => exact ⟨1 + 1, by have := HI.out; omega, rfl, by rw [HS.out]; go_num⟩
        case measure => have := HI.out; simp [RowKit.intOf]; omega
      · have ho := or_top 16 g c (65536 * c) hg rfl (by omega) (by omega)
        rw [show ((65536 * c : Nat) : Int) = ((c : Int) * 65536) by omega] at ho
        have HS := Lib.hid hs
        have hg0 : (0 : Int) ≤ g ∧ (g : Int) ≤ 65535 := by omega
        have hc0 : (0 : Int) ≤ c ∧ (c : Int) ≤ 255 := by omega
        clear hs hg hbb hi hlt hi8 hl
        go_wp2_with fail
        go_round
        case rel => exact ⟨2 + 1, by have := HI.out; omega, rfl, by rw [HS.out]; go_num⟩
        case measure => have := HI.out; simp [RowKit.intOf]; omega
      · have ho := or_top 24 g c (16777216 * c) hg rfl (by omega) (by omega)
        rw [show ((16777216 * c : Nat) : Int) = ((c : Int) * 16777216) by omega] at ho
        have HS := Lib.hid hs
        have hg0 : (0 : Int) ≤ g ∧ (g : Int) ≤ 16777215 := by omega
        have hc0 : (0 : Int) ≤ c ∧ (c : Int) ≤ 255 := by omega
        clear hs hg hbb hi hlt hi8 hl
        go_wp2_with fail
        go_round
        case rel => exact ⟨3 + 1, by have := HI.out; omega, rfl, by rw [HS.out]; go_num⟩
        case measure => have := HI.out; simp [RowKit.intOf]; omega
      · have ho := or_top 32 g c (4294967296 * c) hg rfl (by omega) (by omega)
        rw [show ((4294967296 * c : Nat) : Int) = ((c : Int) * 4294967296) by omega] at ho
        have HS := Lib.hid hs
        have hg0 : (0 : Int) ≤ g ∧ (g : Int) ≤ 4294967295 := by omega
        have hc0 : (0 : Int) ≤ c ∧ (c : Int) ≤ 255 := by omega
        clear hs hg hbb hi hlt hi8 hl
        go_wp2_with fail
        go_round
        case rel => exact ⟨4 + 1, by have := HI.out; omega, rfl, by rw [HS.out]; go_num⟩
        case measure => have := HI.out; simp [RowKit.intOf]; omega
      · have ho := or_top 40 g c (1099511627776 * c) hg rfl (by omega) (by omega)
        rw [show ((1099511627776 * c : Nat) : Int) = ((c : Int) * 1099511627776) by omega] at ho
        have HS := Lib.hid hs
        have hg0 : (0 : Int) ≤ g ∧ (g : Int) ≤ 1099511627775 := by omega
        have hc0 : (0 : Int) ≤ c ∧ (c : Int) ≤ 255 := by omega
        clear hs hg hbb hi hlt hi8 hl
        go_wp2_with fail
        go_round
        case rel => exact ⟨5 + 1, by have := HI.out; omega, rfl, by rw [HS.out]; go_num⟩
        case measure => have := HI.out; simp [RowKit.intOf]; omega
      · have ho := or_top 48 g c (281474976710656 * c) hg rfl (by omega) (by omega)
        rw [show ((281474976710656 * c : Nat) : Int) = ((c : Int) * 281474976710656) by omega] at ho
        have HS := Lib.hid hs
        have hg0 : (0 : Int) ≤ g ∧ (g : Int) ≤ 281474976710655 := by omega
        have hc0 : (0 : Int) ≤ c ∧ (c : Int) ≤ 255 := by omega
        clear hs hg hbb hi hlt hi8 hl
        go_wp2_with fail
        go_round
        case rel => exact ⟨6 + 1, by have := HI.out; omega, rfl, by rw [HS.out]; go_num⟩
        case measure => have := HI.out; simp [RowKit.intOf]; omega
      · have ho := or_top 56 g c (72057594037927936 * c) hg rfl (by omega) (by omega)
        rw [show ((72057594037927936 * c : Nat) : Int) = ((c : Int) * 72057594037927936) by omega] at ho
        have HS := Lib.hid hs
        have hg0 : (0 : Int) ≤ g ∧ (g : Int) ≤ 72057594037927935 := by omega
        have hc0 : (0 : Int) ≤ c ∧ (c : Int) ≤ 255 := by omega
        clear hs hg hbb hi hlt hi8 hl
        go_wp2_with fail
        go_round
        case rel => exact ⟨7 + 1, by have := HI.out; omega, rfl, by rw [HS.out]; go_num⟩
        case measure => have := HI.out; simp [RowKit.intOf]; omega
end Go.Proofs.YtoehpoodfbgdiaaDoor
