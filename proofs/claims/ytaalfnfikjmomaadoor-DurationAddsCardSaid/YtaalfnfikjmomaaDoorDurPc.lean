/- Contracts of the program's Show and Parse (duration). -/
import Derived.Test.YtaalfnfikjmomaaDoorDurPb
namespace Go.Proofs.YtaalfnfikjmomaaDoor
open Go.RowKit Go.Lib

theorem str_of (s : ByteArray) : (⟨s.data.toList.toArray⟩ : ByteArray) = s := by
  apply ByteArray.ext
  simp

theorem limited_any (n : Int) (w : World) :
    Calls Tryd.prog 27 #[.int .i64 n] w fun e w' => e = .returned (.int .i64 (limD n : Nat)) ∧ w = w' := by
  have L := Lib.hid (fun w => Limit_any n 0 1125899906842624 w)
  have hv := Lib.hid (show clamp n 0 1125899906842624 = ((limD n : Nat) : Int) by unfold clamp limD; split <;> (try split) <;> (try split) <;> (try split) <;> omega)
  go_enter Tryd.func27, Tryd.ntmps27
  go_wp2_with fail
  go_fit (L.out _)
  rintro e w1 ⟨rfl, rfl⟩
  rw [hv.out]
  go_wp2_with fail
  go_ret
  exact ⟨rfl, rfl⟩

theorem units_cell {w : World} (h : TabD w) (k : Nat) : w.cell? ⟨0, k, none⟩ = unitsA[k]? :=
  World.var?_cell (g := 0) (by kernel_rfl) h.1 k
theorem units_cells {w : World} (h : TabD w) : w.cell? ⟨0, 0, none⟩ = some (.string ⟨#[100]⟩) ∧ w.cell? ⟨0, 1, none⟩ = some (.int .i64 86400000) ∧ w.cell? ⟨0, 2, none⟩ = some (.int .i64 9223372036854775807)
    ∧ w.cell? ⟨0, 3, none⟩ = some (.string ⟨#[104]⟩) ∧ w.cell? ⟨0, 4, none⟩ = some (.int .i64 3600000) ∧ w.cell? ⟨0, 5, none⟩ = some (.int .i64 23)
    ∧ w.cell? ⟨0, 6, none⟩ = some (.string ⟨#[109]⟩) ∧ w.cell? ⟨0, 7, none⟩ = some (.int .i64 60000) ∧ w.cell? ⟨0, 8, none⟩ = some (.int .i64 59)
    ∧ w.cell? ⟨0, 9, none⟩ = some (.string ⟨#[115]⟩) ∧ w.cell? ⟨0, 10, none⟩ = some (.int .i64 1000) ∧ w.cell? ⟨0, 11, none⟩ = some (.int .i64 59)
    ∧ w.cell? ⟨0, 12, none⟩ = some (.string ⟨#[109, 115]⟩) ∧ w.cell? ⟨0, 13, none⟩ = some (.int .i64 1) ∧ w.cell? ⟨0, 14, none⟩ = some (.int .i64 999) :=
  ⟨units_cell h 0, units_cell h 1, units_cell h 2, units_cell h 3, units_cell h 4, units_cell h 5, units_cell h 6, units_cell h 7, units_cell h 8, units_cell h 9, units_cell h 10, units_cell h 11, units_cell h 12, units_cell h 13, units_cell h 14⟩

theorem units_ix0 (w : World) : (Instr.index 41 (.agg #[.string ⟨#[100]⟩, .int .i64 86400000, .int .i64 9223372036854775807, .string ⟨#[104]⟩, .int .i64 3600000, .int .i64 23, .string ⟨#[109]⟩, .int .i64 60000, .int .i64 59, .string ⟨#[115]⟩, .int .i64 1000, .int .i64 59, .string ⟨#[109, 115]⟩, .int .i64 1, .int .i64 999]) (.int .i64 0)).run Tryd.prog w = .ok (.agg #[.string ⟨#[100]⟩, .int .i64 86400000, .int .i64 9223372036854775807]) w := by kernel_rfl
theorem units_ix1 (w : World) : (Instr.index 41 (.agg #[.string ⟨#[100]⟩, .int .i64 86400000, .int .i64 9223372036854775807, .string ⟨#[104]⟩, .int .i64 3600000, .int .i64 23, .string ⟨#[109]⟩, .int .i64 60000, .int .i64 59, .string ⟨#[115]⟩, .int .i64 1000, .int .i64 59, .string ⟨#[109, 115]⟩, .int .i64 1, .int .i64 999]) (.int .i64 1)).run Tryd.prog w = .ok (.agg #[.string ⟨#[104]⟩, .int .i64 3600000, .int .i64 23]) w := by kernel_rfl
theorem units_ix2 (w : World) : (Instr.index 41 (.agg #[.string ⟨#[100]⟩, .int .i64 86400000, .int .i64 9223372036854775807, .string ⟨#[104]⟩, .int .i64 3600000, .int .i64 23, .string ⟨#[109]⟩, .int .i64 60000, .int .i64 59, .string ⟨#[115]⟩, .int .i64 1000, .int .i64 59, .string ⟨#[109, 115]⟩, .int .i64 1, .int .i64 999]) (.int .i64 2)).run Tryd.prog w = .ok (.agg #[.string ⟨#[109]⟩, .int .i64 60000, .int .i64 59]) w := by kernel_rfl
theorem units_ix3 (w : World) : (Instr.index 41 (.agg #[.string ⟨#[100]⟩, .int .i64 86400000, .int .i64 9223372036854775807, .string ⟨#[104]⟩, .int .i64 3600000, .int .i64 23, .string ⟨#[109]⟩, .int .i64 60000, .int .i64 59, .string ⟨#[115]⟩, .int .i64 1000, .int .i64 59, .string ⟨#[109, 115]⟩, .int .i64 1, .int .i64 999]) (.int .i64 3)).run Tryd.prog w = .ok (.agg #[.string ⟨#[115]⟩, .int .i64 1000, .int .i64 59]) w := by kernel_rfl
theorem units_ix4 (w : World) : (Instr.index 41 (.agg #[.string ⟨#[100]⟩, .int .i64 86400000, .int .i64 9223372036854775807, .string ⟨#[104]⟩, .int .i64 3600000, .int .i64 23, .string ⟨#[109]⟩, .int .i64 60000, .int .i64 59, .string ⟨#[115]⟩, .int .i64 1000, .int .i64 59, .string ⟨#[109, 115]⟩, .int .i64 1, .int .i64 999]) (.int .i64 4)).run Tryd.prog w = .ok (.agg #[.string ⟨#[109, 115]⟩, .int .i64 1, .int .i64 999]) w := by kernel_rfl
theorem mulS_eq (a b : Nat) : limit64 ((a : Int) * (b : Int)) = ((mulS a b : Nat) : Int) := by
  rw [← Int.natCast_mul]
  unfold mulS
  generalize a * b = c
  unfold limit64
  split <;> (try split) <;> omega
theorem addS_eq (a b : Nat) : limit64 ((a : Int) + (b : Int)) = ((addS a b : Nat) : Int) := by unfold limit64 addS; split <;> (try split) <;> omega
theorem addS_le (a b : Nat) : addS a b ≤ 9223372036854775807 := by unfold addS; omega
theorem parts_any (n sum szn : Nat) (sz ni si : Int) (hz : sz = (szn : Int)) (hni : ni = (n : Int)) (hsi : si = (sum : Int)) (hn : n ≤ 9223372036854775807) (hs : sum ≤ 9223372036854775807) (hz9 : szn ≤ 9223372036854775807) :
    ∃ mi ai : Int, ai = ((addS sum (mulS n szn) : Nat) : Int) ∧ (∀ w, Calls Tryd.prog 21 #[.int .i64 ni, .int .i64 sz] w fun e w' => e = .returned (.int .i64 mi) ∧ Below w.heap.size w w') ∧ (∀ w, Calls Tryd.prog 20 #[.int .i64 si, .int .i64 mi] w fun e w' => e = .returned (.int .i64 ai) ∧ w = w') := by
  have hm := mulS_eq n szn
  have ha := addS_eq sum (mulS n szn)
  have hb : mulS n szn ≤ 9223372036854775807 := Nat.min_le_right _ _
  refine ⟨((mulS n szn : Nat) : Int), _, rfl, fun w => ?_, fun w => ?_⟩
  · have := Mul_any ni sz (by unfold I64; omega) (by unfold I64; omega) w
    rw [hni, hz, hm] at this
    rw [hni, hz]
    exact this
  · have := Add_any si ((mulS n szn : Nat) : Int) (by unfold I64; omega) (by unfold I64; omega) w
    rw [hsi, ha] at this
    rw [hsi]
    exact this
theorem takeL_len {name : List UInt8} {most n : Nat} {l r : List UInt8} (h : takeL name most l = some (n, r)) : r.length ≤ l.length ∧ n ≤ 9223372036854775807 := by
  unfold takeL at h
  split at h
  · cases h
  · split at h
    · cases h
    · simp only [Option.some.injEq, Prod.mk.injEq] at h
      obtain ⟨rfl, rfl⟩ := h
      have h1 := (List.dropWhile_sublist lt.contains (l := l.dropWhile dg.contains)).length_le
      have h2 := (List.dropWhile_sublist dg.contains (l := l)).length_le
      exact ⟨by omega, by unfold satN; omega⟩

set_option maxHeartbeats 4000000 in
set_option maxRecDepth 100000 in
theorem durParse_any (s : ByteArray) (hs : s.size ≤ 140737488355328) (w : World) (hT : TabD w) :
    Calls Tryd.prog 9 #[.string s] w fun e w' => e = .returned (.tuple #[.int .i64 ((progP s.data.toList).1 : Nat), .int .i64 ((progP s.data.toList).2 : Nat)]) ∧ Below w.heap.size w w' := by
  have HT := Lib.hid hT
  have hsl : s.data.toList.length = s.size := by rw [Array.length_toList]; rfl
  obtain ⟨c0, c1, c2, c3, c4, c5, c6, c7, c8, c9, c10, c11, c12, c13, c14⟩ := units_cells hT
  clear hT
  by_cases hz : s.data.toList = [48, 115]
  · have HF := Lib.hid (show progP s.data.toList = (0, 0) by unfold progP; rw [if_pos hz])
    have g0 : (s.toList == [48, 115]) = true := by rw [Lib.toList_data, hz]; rfl
    clear hz
    go_enter Tryd.func9, Tryd.ntmps9
    go_wp2_with fail
    go_ret2
    exact ⟨by rw [HF.out]; rfl, Below.refl _ _⟩
  have HF := Lib.hid (show progP s.data.toList = if s.data.toList = [] ∨ (progF 5 0 s.data.toList).2 ≠ [] then (0, 5) else if MT < (progF 5 0 s.data.toList).1 then (0, 2) else ((progF 5 0 s.data.toList).1, 0) by conv => lhs; unfold progP; rw [if_neg hz])
  have g0 : (s.toList == [48, 115]) = false := by rw [Lib.toList_data]; simpa using hz
  clear hz
  go_enter Tryd.func9, Tryd.ntmps9
  go_wp2_with fail
  go_loopw [4, 5, 15] (fun s4 s5 s15 wr => ∃ (i sum : Nat) (l : List UInt8) (x : ByteArray), i ≤ 5 ∧ sum ≤ 9223372036854775807 ∧ l.length ≤ s.data.toList.length ∧ x = ⟨l.toArray⟩ ∧ progF 5 0 s.data.toList = progF (5 - i) sum l ∧ s4 = .int .i64 (sum : Int) ∧ s5 = .string x ∧ s15 = .int .i64 (i : Int) ∧ Below w.heap.size w wr) (fun _ _ s15 _ => 5 - (RowKit.intOf s15).toNat)
  case atStart => exact ⟨0, 0, s.data.toList, s, by omega, by omega, Nat.le_refl _, (str_of s).symm, rfl, rfl, rfl, rfl, Below.refl _ _⟩
  case round =>
    obtain ⟨i, sum, l, x, hi, hsum, hll, hx, he, rfl, rfl, rfl, hb⟩ := hrel
    have HS := Lib.hid (And.intro hsum hll)
    rw [hsl] at hll
    have HE := Lib.hid he
    have HX := Lib.hid hx
    have HB := Lib.hid hb
    have HT1 := Lib.hid (HT.out.below hb)
    have xs : x.size = l.length := by rw [hx, sizeL]
    have T := fun name size most hm w hT => durTake_any name size most hm x (by omega) w hT
    rw [show x.data.toList = l by rw [hx, toL]] at T
    have hsum0 : (0 : Int) ≤ (sum : Int) ∧ (sum : Int) ≤ 9223372036854775807 := by omega
    clear he hx hb hll hsum
    rcases (show i = 5 ∨ i = 0 ∨ i = 1 ∨ i = 2 ∨ i = 3 ∨ i = 4 by omega) with rfl | rfl | rfl | rfl | rfl | rfl
    · have hfin : progF 5 0 s.data.toList = (sum, l) := HE.out
      obtain ⟨si, hsi⟩ : ∃ si : Int, si = (sum : Int) := ⟨_, rfl⟩
      have HSI := Lib.hid hsi
      by_cases q1 : s.data.toList = []
      · have HG := Lib.hid (show progP s.data.toList = (0, 5) by rw [HF.out, if_pos (.inl q1)])
        have e1 : s.toList.isEmpty = true := by rw [Lib.toList_data, q1]; rfl
        rw [← hsi]
        clear T hfin q1 hsi
        go_wp2_with fail
        go_ret2
        exact ⟨by rw [HG.out]; rfl, HB.out⟩
      · have e1 : s.toList.isEmpty = false := by rw [Lib.toList_data]; simpa using q1
        by_cases q2 : l = []
        · have e2 : x.toList.isEmpty = true := by rw [Lib.toList_data, HX.out, toL, q2]; rfl
          by_cases q3 : MT < sum
          · have HG := Lib.hid (show progP s.data.toList = (0, 2) by rw [HF.out, hfin, if_neg (by simp [q1, q2]), if_pos q3])
            have q3i : (1125899906842624 : Int) < si := by unfold MT at q3; omega
            rw [← hsi]
            clear T hfin q1 q2 q3 hsi hsum0
            go_wp2_with fail
            go_ret2
            exact ⟨by rw [HG.out]; rfl, HB.out⟩
          · have HG := Lib.hid (show progP s.data.toList = (sum, 0) by rw [HF.out, hfin, if_neg (by simp [q1, q2]), if_neg q3])
            have q3i : ¬ (1125899906842624 : Int) < si := by unfold MT at q3; omega
            rw [← hsi]
            clear T hfin q1 q2 q3 hsi hsum0
            go_wp2_with fail
            go_ret2
            exact ⟨by rw [HG.out, ← HSI.out]; rfl, HB.out⟩
        · have HG := Lib.hid (show progP s.data.toList = (0, 5) by rw [HF.out, hfin, if_pos (.inr q2)])
          have e2 : x.toList.isEmpty = false := by rw [Lib.toList_data, HX.out, toL]; simpa using q2
          rw [← hsi]
          clear T hfin q1 q2 hsi
          go_wp2_with fail
          go_ret2
          exact ⟨by rw [HG.out]; rfl, HB.out⟩
    · have hp : progF (5 - 0) sum l = match takeL [100] 9223372036854775807 l with | none => progF (5 - (0 + 1)) sum l | some (n, r) => progF (5 - (0 + 1)) (addS sum (mulS n 86400000)) r := rfl
      have BA := Lib.hid (HB.out.alloc HB.out.size (Obj.cells #[.string ⟨#[100]⟩, .int .i64 86400000, .int .i64 9223372036854775807] 40))
      have TA := Lib.hid (HT1.out.below ((Below.refl wr.heap.size wr).alloc (Nat.le_refl _) (Obj.cells #[.string ⟨#[100]⟩, .int .i64 86400000, .int .i64 9223372036854775807] 40)))
      cases ht : takeL [100] 9223372036854775807 l with
      | none =>
        have T0 := Lib.hid (show ∀ w, TabD w → Calls Tryd.prog 19 #[.agg #[.string ⟨#[100]⟩, .int .i64 86400000, .int .i64 9223372036854775807], .string x] w fun e w' => e = .returned (.tuple #[.int .i64 0, .string ⟨#[]⟩, .bool false]) ∧ Below w.heap.size w w' from fun w hT => by
          have h := T [100] 86400000 9223372036854775807 (by omega) w hT
          rw [ht] at h
          exact h)
        rw [ht] at hp
        have HP := Lib.hid (show progF 5 0 s.data.toList = progF (5 - (0 + 1)) sum l by rw [HE.out, hp])
        have ix := units_ix0
        clear T hp ht
        go_wp2_with fail
        go_fit (T0.out _ TA.out)
        rintro e w1 ⟨rfl, hb1⟩
        have B1 := Lib.hid (BA.out.trans (hb1.mono BA.out.size))
        clear hb1
        go_wp2_with fail
        go_roundw
        case rel => exact ⟨0 + 1, sum, l, x, by omega, HS.out.1, HS.out.2, HX.out, HP.out, rfl, rfl, by go_num, B1.out⟩
        case measure => simp [RowKit.intOf]
      | some q =>
        obtain ⟨n, r⟩ := q
        obtain ⟨hrl, hn⟩ := takeL_len ht
        obtain ⟨y, hy⟩ : ∃ y : ByteArray, y = ⟨r.toArray⟩ := ⟨_, rfl⟩
        obtain ⟨ni, hni⟩ : ∃ ni : Int, ni = (n : Int) := ⟨_, rfl⟩
        obtain ⟨si, hsi⟩ : ∃ si : Int, si = (sum : Int) := ⟨_, rfl⟩
        have T0 := Lib.hid (show ∀ w, TabD w → Calls Tryd.prog 19 #[.agg #[.string ⟨#[100]⟩, .int .i64 86400000, .int .i64 9223372036854775807], .string x] w fun e w' => e = .returned (.tuple #[.int .i64 ni, .string y, .bool true]) ∧ Below w.heap.size w w' from fun w hT => by
          have h := T [100] 86400000 9223372036854775807 (by omega) w hT
          rw [ht] at h
          rw [hni, hy]
          exact h)
        rw [ht] at hp
        have HP := Lib.hid (show progF 5 0 s.data.toList = progF (5 - (0 + 1)) (addS sum (mulS n 86400000)) r by rw [HE.out, hp])
        obtain ⟨mi, ai, hai, M, A⟩ := parts_any n sum 86400000 86400000 ni si rfl hni hsi hn HS.out.1 (by decide)
        have HA := Lib.hid hai
        have M := Lib.hid M
        have A := Lib.hid A
        have HQ := Lib.hid (show addS sum (mulS n 86400000) ≤ 9223372036854775807 ∧ r.length ≤ s.data.toList.length from ⟨addS_le _ _, by have := HS.out.2; omega⟩)
        have HY := Lib.hid hy
        rw [← hsi]
        have ix := units_ix0
        clear T hp ht hrl hn hni hsi hai hy
        go_wp2_with fail
        go_fit (T0.out _ TA.out)
        rintro e w1 ⟨rfl, hb1⟩
        obtain ⟨k0, k1, k2, hb2⟩ := hold3 hb1
        have B1 := Lib.hid (HB.out.trans (hb2.mono HB.out.size))
        clear hb1 hb2 k0 k2 ix c0 c1 c2 c3 c4 c5 c6 c7 c8 c9 c10 c11 c12 c13 c14
        go_wp2_with fail
        go_fit (M.out _)
        rintro e w2 ⟨rfl, hb2⟩
        have B2 := Lib.hid (B1.out.trans (hb2.mono B1.out.size))
        clear hb2
        go_wp2_with fail
        go_fit (A.out _)
        rintro e w2 ⟨rfl, rfl⟩
        go_wp2_with fail
        go_roundw
        case rel => exact ⟨0 + 1, _, r, y, by omega, HQ.out.1, HQ.out.2, HY.out, HP.out, by rw [HA.out], rfl, by go_num, B2.out⟩
        case measure => simp [RowKit.intOf]
    · have hp : progF (5 - 1) sum l = match takeL [104] 23 l with | none => progF (5 - (1 + 1)) sum l | some (n, r) => progF (5 - (1 + 1)) (addS sum (mulS n 3600000)) r := rfl
      have BA := Lib.hid (HB.out.alloc HB.out.size (Obj.cells #[.string ⟨#[104]⟩, .int .i64 3600000, .int .i64 23] 40))
      have TA := Lib.hid (HT1.out.below ((Below.refl wr.heap.size wr).alloc (Nat.le_refl _) (Obj.cells #[.string ⟨#[104]⟩, .int .i64 3600000, .int .i64 23] 40)))
      cases ht : takeL [104] 23 l with
      | none =>
        have T0 := Lib.hid (show ∀ w, TabD w → Calls Tryd.prog 19 #[.agg #[.string ⟨#[104]⟩, .int .i64 3600000, .int .i64 23], .string x] w fun e w' => e = .returned (.tuple #[.int .i64 0, .string ⟨#[]⟩, .bool false]) ∧ Below w.heap.size w w' from fun w hT => by
          have h := T [104] 3600000 23 (by omega) w hT
          rw [ht] at h
          exact h)
        rw [ht] at hp
        have HP := Lib.hid (show progF 5 0 s.data.toList = progF (5 - (1 + 1)) sum l by rw [HE.out, hp])
        have ix := units_ix1
        clear T hp ht
        go_wp2_with fail
        go_fit (T0.out _ TA.out)
        rintro e w1 ⟨rfl, hb1⟩
        have B1 := Lib.hid (BA.out.trans (hb1.mono BA.out.size))
        clear hb1
        go_wp2_with fail
        go_roundw
        case rel => exact ⟨1 + 1, sum, l, x, by omega, HS.out.1, HS.out.2, HX.out, HP.out, rfl, rfl, by go_num, B1.out⟩
        case measure => simp [RowKit.intOf]
      | some q =>
        obtain ⟨n, r⟩ := q
        obtain ⟨hrl, hn⟩ := takeL_len ht
        obtain ⟨y, hy⟩ : ∃ y : ByteArray, y = ⟨r.toArray⟩ := ⟨_, rfl⟩
        obtain ⟨ni, hni⟩ : ∃ ni : Int, ni = (n : Int) := ⟨_, rfl⟩
        obtain ⟨si, hsi⟩ : ∃ si : Int, si = (sum : Int) := ⟨_, rfl⟩
        have T0 := Lib.hid (show ∀ w, TabD w → Calls Tryd.prog 19 #[.agg #[.string ⟨#[104]⟩, .int .i64 3600000, .int .i64 23], .string x] w fun e w' => e = .returned (.tuple #[.int .i64 ni, .string y, .bool true]) ∧ Below w.heap.size w w' from fun w hT => by
          have h := T [104] 3600000 23 (by omega) w hT
          rw [ht] at h
          rw [hni, hy]
          exact h)
        rw [ht] at hp
        have HP := Lib.hid (show progF 5 0 s.data.toList = progF (5 - (1 + 1)) (addS sum (mulS n 3600000)) r by rw [HE.out, hp])
        obtain ⟨mi, ai, hai, M, A⟩ := parts_any n sum 3600000 3600000 ni si rfl hni hsi hn HS.out.1 (by decide)
        have HA := Lib.hid hai
        have M := Lib.hid M
        have A := Lib.hid A
        have HQ := Lib.hid (show addS sum (mulS n 3600000) ≤ 9223372036854775807 ∧ r.length ≤ s.data.toList.length from ⟨addS_le _ _, by have := HS.out.2; omega⟩)
        have HY := Lib.hid hy
        rw [← hsi]
        have ix := units_ix1
        clear T hp ht hrl hn hni hsi hai hy
        go_wp2_with fail
        go_fit (T0.out _ TA.out)
        rintro e w1 ⟨rfl, hb1⟩
        obtain ⟨k0, k1, k2, hb2⟩ := hold3 hb1
        have B1 := Lib.hid (HB.out.trans (hb2.mono HB.out.size))
        clear hb1 hb2 k0 k2 ix c0 c1 c2 c3 c4 c5 c6 c7 c8 c9 c10 c11 c12 c13 c14
        go_wp2_with fail
        go_fit (M.out _)
        rintro e w2 ⟨rfl, hb2⟩
        have B2 := Lib.hid (B1.out.trans (hb2.mono B1.out.size))
        clear hb2
        go_wp2_with fail
        go_fit (A.out _)
        rintro e w2 ⟨rfl, rfl⟩
        go_wp2_with fail
        go_roundw
        case rel => exact ⟨1 + 1, _, r, y, by omega, HQ.out.1, HQ.out.2, HY.out, HP.out, by rw [HA.out], rfl, by go_num, B2.out⟩
        case measure => simp [RowKit.intOf]
    · have hp : progF (5 - 2) sum l = match takeL [109] 59 l with | none => progF (5 - (2 + 1)) sum l | some (n, r) => progF (5 - (2 + 1)) (addS sum (mulS n 60000)) r := rfl
      have BA := Lib.hid (HB.out.alloc HB.out.size (Obj.cells #[.string ⟨#[109]⟩, .int .i64 60000, .int .i64 59] 40))
      have TA := Lib.hid (HT1.out.below ((Below.refl wr.heap.size wr).alloc (Nat.le_refl _) (Obj.cells #[.string ⟨#[109]⟩, .int .i64 60000, .int .i64 59] 40)))
      cases ht : takeL [109] 59 l with
      | none =>
        have T0 := Lib.hid (show ∀ w, TabD w → Calls Tryd.prog 19 #[.agg #[.string ⟨#[109]⟩, .int .i64 60000, .int .i64 59], .string x] w fun e w' => e = .returned (.tuple #[.int .i64 0, .string ⟨#[]⟩, .bool false]) ∧ Below w.heap.size w w' from fun w hT => by
          have h := T [109] 60000 59 (by omega) w hT
          rw [ht] at h
          exact h)
        rw [ht] at hp
        have HP := Lib.hid (show progF 5 0 s.data.toList = progF (5 - (2 + 1)) sum l by rw [HE.out, hp])
        have ix := units_ix2
        clear T hp ht
        go_wp2_with fail
        go_fit (T0.out _ TA.out)
        rintro e w1 ⟨rfl, hb1⟩
        have B1 := Lib.hid (BA.out.trans (hb1.mono BA.out.size))
        clear hb1
        go_wp2_with fail
        go_roundw
        case rel => exact ⟨2 + 1, sum, l, x, by omega, HS.out.1, HS.out.2, HX.out, HP.out, rfl, rfl, by go_num, B1.out⟩
        case measure => simp [RowKit.intOf]
      | some q =>
        obtain ⟨n, r⟩ := q
        obtain ⟨hrl, hn⟩ := takeL_len ht
        obtain ⟨y, hy⟩ : ∃ y : ByteArray, y = ⟨r.toArray⟩ := ⟨_, rfl⟩
        obtain ⟨ni, hni⟩ : ∃ ni : Int, ni = (n : Int) := ⟨_, rfl⟩
        obtain ⟨si, hsi⟩ : ∃ si : Int, si = (sum : Int) := ⟨_, rfl⟩
        have T0 := Lib.hid (show ∀ w, TabD w → Calls Tryd.prog 19 #[.agg #[.string ⟨#[109]⟩, .int .i64 60000, .int .i64 59], .string x] w fun e w' => e = .returned (.tuple #[.int .i64 ni, .string y, .bool true]) ∧ Below w.heap.size w w' from fun w hT => by
          have h := T [109] 60000 59 (by omega) w hT
          rw [ht] at h
          rw [hni, hy]
          exact h)
        rw [ht] at hp
        have HP := Lib.hid (show progF 5 0 s.data.toList = progF (5 - (2 + 1)) (addS sum (mulS n 60000)) r by rw [HE.out, hp])
        obtain ⟨mi, ai, hai, M, A⟩ := parts_any n sum 60000 60000 ni si rfl hni hsi hn HS.out.1 (by decide)
        have HA := Lib.hid hai
        have M := Lib.hid M
        have A := Lib.hid A
        have HQ := Lib.hid (show addS sum (mulS n 60000) ≤ 9223372036854775807 ∧ r.length ≤ s.data.toList.length from ⟨addS_le _ _, by have := HS.out.2; omega⟩)
        have HY := Lib.hid hy
        rw [← hsi]
        have ix := units_ix2
        clear T hp ht hrl hn hni hsi hai hy
        go_wp2_with fail
        go_fit (T0.out _ TA.out)
        rintro e w1 ⟨rfl, hb1⟩
        obtain ⟨k0, k1, k2, hb2⟩ := hold3 hb1
        have B1 := Lib.hid (HB.out.trans (hb2.mono HB.out.size))
        clear hb1 hb2 k0 k2 ix c0 c1 c2 c3 c4 c5 c6 c7 c8 c9 c10 c11 c12 c13 c14
        go_wp2_with fail
        go_fit (M.out _)
        rintro e w2 ⟨rfl, hb2⟩
        have B2 := Lib.hid (B1.out.trans (hb2.mono B1.out.size))
        clear hb2
        go_wp2_with fail
        go_fit (A.out _)
        rintro e w2 ⟨rfl, rfl⟩
        go_wp2_with fail
        go_roundw
        case rel => exact ⟨2 + 1, _, r, y, by omega, HQ.out.1, HQ.out.2, HY.out, HP.out, by rw [HA.out], rfl, by go_num, B2.out⟩
        case measure => simp [RowKit.intOf]
    · have hp : progF (5 - 3) sum l = match takeL [115] 59 l with | none => progF (5 - (3 + 1)) sum l | some (n, r) => progF (5 - (3 + 1)) (addS sum (mulS n 1000)) r := rfl
      have BA := Lib.hid (HB.out.alloc HB.out.size (Obj.cells #[.string ⟨#[115]⟩, .int .i64 1000, .int .i64 59] 40))
      have TA := Lib.hid (HT1.out.below ((Below.refl wr.heap.size wr).alloc (Nat.le_refl _) (Obj.cells #[.string ⟨#[115]⟩, .int .i64 1000, .int .i64 59] 40)))
      cases ht : takeL [115] 59 l with
      | none =>
        have T0 := Lib.hid (show ∀ w, TabD w → Calls Tryd.prog 19 #[.agg #[.string ⟨#[115]⟩, .int .i64 1000, .int .i64 59], .string x] w fun e w' => e = .returned (.tuple #[.int .i64 0, .string ⟨#[]⟩, .bool false]) ∧ Below w.heap.size w w' from fun w hT => by
          have h := T [115] 1000 59 (by omega) w hT
          rw [ht] at h
          exact h)
        rw [ht] at hp
        have HP := Lib.hid (show progF 5 0 s.data.toList = progF (5 - (3 + 1)) sum l by rw [HE.out, hp])
        have ix := units_ix3
        clear T hp ht
        go_wp2_with fail
        go_fit (T0.out _ TA.out)
        rintro e w1 ⟨rfl, hb1⟩
        have B1 := Lib.hid (BA.out.trans (hb1.mono BA.out.size))
        clear hb1
        go_wp2_with fail
        go_roundw
        case rel => exact ⟨3 + 1, sum, l, x, by omega, HS.out.1, HS.out.2, HX.out, HP.out, rfl, rfl, by go_num, B1.out⟩
        case measure => simp [RowKit.intOf]
      | some q =>
        obtain ⟨n, r⟩ := q
        obtain ⟨hrl, hn⟩ := takeL_len ht
        obtain ⟨y, hy⟩ : ∃ y : ByteArray, y = ⟨r.toArray⟩ := ⟨_, rfl⟩
        obtain ⟨ni, hni⟩ : ∃ ni : Int, ni = (n : Int) := ⟨_, rfl⟩
        obtain ⟨si, hsi⟩ : ∃ si : Int, si = (sum : Int) := ⟨_, rfl⟩
        have T0 := Lib.hid (show ∀ w, TabD w → Calls Tryd.prog 19 #[.agg #[.string ⟨#[115]⟩, .int .i64 1000, .int .i64 59], .string x] w fun e w' => e = .returned (.tuple #[.int .i64 ni, .string y, .bool true]) ∧ Below w.heap.size w w' from fun w hT => by
          have h := T [115] 1000 59 (by omega) w hT
          rw [ht] at h
          rw [hni, hy]
          exact h)
        rw [ht] at hp
        have HP := Lib.hid (show progF 5 0 s.data.toList = progF (5 - (3 + 1)) (addS sum (mulS n 1000)) r by rw [HE.out, hp])
        obtain ⟨mi, ai, hai, M, A⟩ := parts_any n sum 1000 1000 ni si rfl hni hsi hn HS.out.1 (by decide)
        have HA := Lib.hid hai
        have M := Lib.hid M
        have A := Lib.hid A
        have HQ := Lib.hid (show addS sum (mulS n 1000) ≤ 9223372036854775807 ∧ r.length ≤ s.data.toList.length from ⟨addS_le _ _, by have := HS.out.2; omega⟩)
        have HY := Lib.hid hy
        rw [← hsi]
        have ix := units_ix3
        clear T hp ht hrl hn hni hsi hai hy
        go_wp2_with fail
        go_fit (T0.out _ TA.out)
        rintro e w1 ⟨rfl, hb1⟩
        obtain ⟨k0, k1, k2, hb2⟩ := hold3 hb1
        have B1 := Lib.hid (HB.out.trans (hb2.mono HB.out.size))
        clear hb1 hb2 k0 k2 ix c0 c1 c2 c3 c4 c5 c6 c7 c8 c9 c10 c11 c12 c13 c14
        go_wp2_with fail
        go_fit (M.out _)
        rintro e w2 ⟨rfl, hb2⟩
        have B2 := Lib.hid (B1.out.trans (hb2.mono B1.out.size))
        clear hb2
        go_wp2_with fail
        go_fit (A.out _)
        rintro e w2 ⟨rfl, rfl⟩
        go_wp2_with fail
        go_roundw
        case rel => exact ⟨3 + 1, _, r, y, by omega, HQ.out.1, HQ.out.2, HY.out, HP.out, by rw [HA.out], rfl, by go_num, B2.out⟩
        case measure => simp [RowKit.intOf]
    · have hp : progF (5 - 4) sum l = match takeL [109, 115] 999 l with | none => progF (5 - (4 + 1)) sum l | some (n, r) => progF (5 - (4 + 1)) (addS sum (mulS n 1)) r := rfl
      have BA := Lib.hid (HB.out.alloc HB.out.size (Obj.cells #[.string ⟨#[109, 115]⟩, .int .i64 1, .int .i64 999] 40))
      have TA := Lib.hid (HT1.out.below ((Below.refl wr.heap.size wr).alloc (Nat.le_refl _) (Obj.cells #[.string ⟨#[109, 115]⟩, .int .i64 1, .int .i64 999] 40)))
      cases ht : takeL [109, 115] 999 l with
      | none =>
        have T0 := Lib.hid (show ∀ w, TabD w → Calls Tryd.prog 19 #[.agg #[.string ⟨#[109, 115]⟩, .int .i64 1, .int .i64 999], .string x] w fun e w' => e = .returned (.tuple #[.int .i64 0, .string ⟨#[]⟩, .bool false]) ∧ Below w.heap.size w w' from fun w hT => by
          have h := T [109, 115] 1 999 (by omega) w hT
          rw [ht] at h
          exact h)
        rw [ht] at hp
        have HP := Lib.hid (show progF 5 0 s.data.toList = progF (5 - (4 + 1)) sum l by rw [HE.out, hp])
        have ix := units_ix4
        clear T hp ht
        go_wp2_with fail
        go_fit (T0.out _ TA.out)
        rintro e w1 ⟨rfl, hb1⟩
        have B1 := Lib.hid (BA.out.trans (hb1.mono BA.out.size))
        clear hb1
        go_wp2_with fail
        go_roundw
        case rel => exact ⟨4 + 1, sum, l, x, by omega, HS.out.1, HS.out.2, HX.out, HP.out, rfl, rfl, by go_num, B1.out⟩
        case measure => simp [RowKit.intOf]
      | some q =>
        obtain ⟨n, r⟩ := q
        obtain ⟨hrl, hn⟩ := takeL_len ht
        obtain ⟨y, hy⟩ : ∃ y : ByteArray, y = ⟨r.toArray⟩ := ⟨_, rfl⟩
        obtain ⟨ni, hni⟩ : ∃ ni : Int, ni = (n : Int) := ⟨_, rfl⟩
        obtain ⟨si, hsi⟩ : ∃ si : Int, si = (sum : Int) := ⟨_, rfl⟩
        have T0 := Lib.hid (show ∀ w, TabD w → Calls Tryd.prog 19 #[.agg #[.string ⟨#[109, 115]⟩, .int .i64 1, .int .i64 999], .string x] w fun e w' => e = .returned (.tuple #[.int .i64 ni, .string y, .bool true]) ∧ Below w.heap.size w w' from fun w hT => by
          have h := T [109, 115] 1 999 (by omega) w hT
          rw [ht] at h
          rw [hni, hy]
          exact h)
        rw [ht] at hp
        have HP := Lib.hid (show progF 5 0 s.data.toList = progF (5 - (4 + 1)) (addS sum (mulS n 1)) r by rw [HE.out, hp])
        obtain ⟨mi, ai, hai, M, A⟩ := parts_any n sum 1 1 ni si rfl hni hsi hn HS.out.1 (by decide)
        have HA := Lib.hid hai
        have M := Lib.hid M
        have A := Lib.hid A
        have HQ := Lib.hid (show addS sum (mulS n 1) ≤ 9223372036854775807 ∧ r.length ≤ s.data.toList.length from ⟨addS_le _ _, by have := HS.out.2; omega⟩)
        have HY := Lib.hid hy
        rw [← hsi]
        have ix := units_ix4
        clear T hp ht hrl hn hni hsi hai hy
        go_wp2_with fail
        go_fit (T0.out _ TA.out)
        rintro e w1 ⟨rfl, hb1⟩
        obtain ⟨k0, k1, k2, hb2⟩ := hold3 hb1
        have B1 := Lib.hid (HB.out.trans (hb2.mono HB.out.size))
        clear hb1 hb2 k0 k2 ix c0 c1 c2 c3 c4 c5 c6 c7 c8 c9 c10 c11 c12 c13 c14
        go_wp2_with fail
        go_fit (M.out _)
        rintro e w2 ⟨rfl, hb2⟩
        have B2 := Lib.hid (B1.out.trans (hb2.mono B1.out.size))
        clear hb2
        go_wp2_with fail
        go_fit (A.out _)
        rintro e w2 ⟨rfl, rfl⟩
        go_wp2_with fail
        go_roundw
        case rel => exact ⟨4 + 1, _, r, y, by omega, HQ.out.1, HQ.out.2, HY.out, HP.out, by rw [HA.out], rfl, by go_num, B2.out⟩
        case measure => simp [RowKit.intOf]
end Go.Proofs.YtaalfnfikjmomaaDoor
