/- Contract of the program's parseNumber (label). -/
import Derived.Test.YtglckcenjnieaaaGreatDoorLaA
import Derived.Test.YtglckcenjnieaaaGreatDoorShelf
import Derived.Lib.AppendIntMem
import Derived.Lib.Strings
import Derived.Lib.SmallJoins
namespace Go.Proofs.YtglckcenjnieaaaGreatDoor
open Go.RowKit Go.Lib

/-- What the listed variables of package strconv give. -/
def TabN (w : World) : Prop :=
  Lib.TabIs Tryz.prog w "internal/strconv.uint64pow10" .u64 Lib.pow10Tab ∧ (∃ tp p, w.var? Tryz.prog "strconv.ErrRange" = some #[.iface tp p]) ∧ (∃ tp p, w.var? Tryz.prog "strconv.ErrSyntax" = some #[.iface tp p])
theorem TabN.below {w w' : World} (h : TabN w) (hb : Below w.heap.size w w') : TabN w' := by
  obtain ⟨h2, ⟨tp, p, h3⟩, ⟨tq, q, h4⟩⟩ := h
  exact ⟨Joins.tab_stays (g := 4) (by kernel_rfl) h2 hb (Nat.le_refl _), ⟨tp, p, Joins.var_stays (g := 3) (by kernel_rfl) h3 hb (Nat.le_refl _)⟩,
    ⟨tq, q, Joins.var_stays (g := 2) (by kernel_rfl) h4 hb (Nat.le_refl _)⟩⟩
theorem below_bytes {w w' : World} (h : w' = w ∨ ∃ t, w' = Lib.bytesWorld w 5 t) : Below w.heap.size w w' := by
  rcases h with rfl | ⟨t, rfl⟩
  · exact Below.refl _ _
  · exact Lib.bytesWorld_below _ _ _
theorem itoaL_any (n : Int) (h0 : 0 ≤ n) (hn : n ≤ 9223372036854775807) (w : World) (hT : TabN w) :
    Calls Tryz.prog 74 #[.int .i64 n] w fun e w' => e = .returned (.string ⟨(Lib.itoa n).toArray⟩) ∧ Below w.heap.size w w' := by
  refine (Tryz.strconv_Itoa n (by omega) (by omega) w hT.1).mono ?_
  rintro e w' ⟨rfl, k, os, rfl⟩
  exact ⟨rfl, Lib.below_grow _ _ (Nat.le_refl _) _ _⟩
theorem str_of {s : ByteArray} {l : List UInt8} (h : s.data.toList = l) : s = ⟨l.toArray⟩ := by
  obtain ⟨d⟩ := s
  subst h
  rfl

set_option maxHeartbeats 1000000 in
theorem parseNumber_ok (s : ByteArray) (hs : s.size ≤ 1099511627776) (n : Nat) (hn : numL s.data.toList = some n) (w : World) (hT : TabN w) :
    Calls Tryz.prog 46 #[.string s] w fun e w' => e = .returned (.tuple #[.int .i64 (n : Int), .bool true]) ∧ Below w.heap.size w w' := by
  obtain ⟨h1, h2, h3⟩ := atoi_num hn
  have HT := Lib.hid hT
  have A := Lib.hid (fun w => Tryz.strconv_Atoi_ok s (by omega) _ h1 w)
  have D := Lib.hid (fun w hT => itoaL_any (n : Int) (by omega) (by omega) w hT)
  rw [h2, ← str_of (s := s) rfl] at D
  have hn0 : (0 : Int) ≤ n ∧ (n : Int) ≤ 9007199254740992 := by omega
  have he : (s.toList == s.toList) = true := by simp
  clear h1 h2 h3 hn hT
  go_enter Tryz.func46, Tryz.ntmps46
  go_wp2_with fail
  go_fit (A.out _)
  rintro e w1 ⟨rfl, hb⟩
  have B1 := Lib.hid (below_bytes hb)
  clear hb
  go_wp2_with fail
  go_fit (D.out _ (HT.out.below B1.out))
  rintro e w2 ⟨rfl, hb⟩
  have B2 := Lib.hid (B1.out.trans (hb.mono B1.out.size))
  clear hb
  go_wp2_with fail
  go_ret2
  exact ⟨rfl, B2.out⟩

set_option maxHeartbeats 1000000 in
theorem parseNumber_no (s : ByteArray) (hs : s.size ≤ 1099511627776) (hn : numL s.data.toList = none) (w : World) (hT : TabN w) :
    Calls Tryz.prog 46 #[.string s] w fun e w' => ∃ v : Int, e = .returned (.tuple #[.int .i64 v, .bool false]) ∧ Below w.heap.size w w' := by
  have HT := Lib.hid hT
  cases ha : Lib.atoiAll s.data.toList with
  | ok v =>
    have A := Lib.hid (fun w => Tryz.strconv_Atoi_ok s (by omega) _ ha w)
    have hno := atoi_no hn v
    by_cases k1 : v < 0
    · clear hno hn ha hT
      go_enter Tryz.func46, Tryz.ntmps46
      go_wp2_with fail
      go_fit (A.out _)
      rintro e w1 ⟨rfl, hb⟩
      have B1 := Lib.hid (below_bytes hb)
      clear hb
      go_wp2_with fail
      go_ret2
      exact ⟨⟨v, rfl⟩, B1.out⟩
    by_cases k2 : 9007199254740992 < v
    · clear hno hn ha hT
      go_enter Tryz.func46, Tryz.ntmps46
      go_wp2_with fail
      go_fit (A.out _)
      rintro e w1 ⟨rfl, hb⟩
      have B1 := Lib.hid (below_bytes hb)
      clear hb
      go_wp2_with fail
      go_ret2
      exact ⟨⟨v, rfl⟩, B1.out⟩
    have D := Lib.hid (fun w hT => itoaL_any v (by omega) (by omega) w hT)
    have he : ((⟨(Lib.itoa v).toArray⟩ : ByteArray).toList == s.toList) = false := by
      rw [Lib.toList_data, Lib.toList_data]
      simpa using hno (by omega) (by omega)
    generalize (⟨(Lib.itoa v).toArray⟩ : ByteArray) = y at D he
    clear hno hn ha hT
    go_enter Tryz.func46, Tryz.ntmps46
    go_wp2_with fail
    go_fit (A.out _)
    rintro e w1 ⟨rfl, hb⟩
    have B1 := Lib.hid (below_bytes hb)
    clear hb
    go_wp2_with fail
    go_fit (D.out _ (HT.out.below B1.out))
    rintro e w2 ⟨rfl, hb⟩
    have B2 := Lib.hid (B1.out.trans (hb.mono B1.out.size))
    clear hb
    go_wp2_with fail
    go_ret2
    exact ⟨v, rfl, B2.out⟩
  | «syntax» =>
    obtain ⟨_, _, tp, p, h3⟩ := hT
    have A := Lib.hid (fun w h3 => Tryz.strconv_Atoi_syntax_var s (by omega) ha tp p w h3)
    have H3 := Lib.hid h3
    clear hn ha h3
    go_enter Tryz.func46, Tryz.ntmps46
    go_wp2_with fail
    go_fit (A.out _ H3.out)
    rintro e w1 ⟨N, rfl, _, _, hb⟩
    have B1 := Lib.hid hb
    clear hb
    go_wp2_with fail
    go_ret2
    exact ⟨0, rfl, B1.out⟩
  | range =>
    obtain ⟨_, ⟨tp, p, h3⟩, _⟩ := hT
    have A := Lib.hid (fun w h3 => Tryz.strconv_Atoi_range_var s (by omega) ha tp p w h3)
    have H3 := Lib.hid h3
    generalize Lib.atoiSat s.data.toList = v at A
    clear hn ha h3
    go_enter Tryz.func46, Tryz.ntmps46
    go_wp2_with fail
    go_fit (A.out _ H3.out)
    rintro e w1 ⟨N, rfl, _, _, hb⟩
    have B1 := Lib.hid hb
    clear hb
    go_wp2_with fail
    go_ret2
    exact ⟨v, rfl, B1.out⟩
end Go.Proofs.YtglckcenjnieaaaGreatDoor
