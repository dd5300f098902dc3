/- Contracts of strconv.Atoi at digits, strconv.Itoa, and the program's take (duration). -/
import Derived.Test.YtaalfnfikjmomaaDoorDurPa
import Derived.Test.YtaalfnfikjmomaaDoorDurT
import Derived.Lib.AppendIntMem
import Derived.Lib.Strings
namespace Go.Proofs.YtaalfnfikjmomaaDoor
open Go.RowKit Go.Lib

def unitsA : Array Value := #[.string ⟨#[100]⟩, .int .i64 86400000, .int .i64 9223372036854775807, .string ⟨#[104]⟩, .int .i64 3600000, .int .i64 23, .string ⟨#[109]⟩, .int .i64 60000, .int .i64 59, .string ⟨#[115]⟩, .int .i64 1000, .int .i64 59, .string ⟨#[109, 115]⟩, .int .i64 1, .int .i64 999]
/-- What the listed variables give. -/
def TabD (w : World) : Prop :=
  w.var? Tryd.prog "pipeline/duration.units" = some unitsA ∧ Lib.TabIs Tryd.prog w "internal/strconv.uint64pow10" .u64 Lib.pow10Tab ∧ (∃ tp p, w.var? Tryd.prog "strconv.ErrRange" = some #[.iface tp p])
theorem TabD.below {w w' : World} (h : TabD w) (hb : Below w.heap.size w w') : TabD w' := by
  obtain ⟨h1, h2, tp, p, h3⟩ := h
  exact ⟨Joins.var_stays (g := 0) (by kernel_rfl) h1 hb (Nat.le_refl _), Joins.tab_stays (g := 3) (by kernel_rfl) h2 hb (Nat.le_refl _), tp, p, Joins.var_stays (g := 2) (by kernel_rfl) h3 hb (Nat.le_refl _)⟩

theorem below_bytes {w w' : World} (h : w' = w ∨ ∃ t, w' = Lib.bytesWorld w 5 t) : Below w.heap.size w w' := by
  rcases h with rfl | ⟨t, rfl⟩
  · exact Below.refl _ _
  · exact Lib.bytesWorld_below _ _ _
theorem atoi_any (s : ByteArray) (hs : s.size ≤ 140737488355328) (h0 : s.data.toList ≠ []) (hd : ∀ c ∈ s.data.toList, 48 ≤ c.toNat ∧ c.toNat ≤ 57) (w : World) (hT : TabD w) :
    Calls Tryd.prog 32 #[.string s] w fun e w' => ∃ ev, e = .returned (.tuple #[.int .i64 (satN s.data.toList : Nat), ev]) ∧ Below w.heap.size w w' := by
  obtain ⟨h1, h2⟩ := atoi_digits h0 hd
  by_cases hv : valL 0 s.data.toList < 9223372036854775808
  · rw [if_pos hv] at h1
    refine (Tryd.strconv_Atoi_ok s (by omega) _ h1 w).mono ?_
    rintro e w' ⟨rfl, hw⟩
    exact ⟨.nilIface, by rw [satN_eq, if_pos hv], below_bytes hw⟩
  · rw [if_neg hv] at h1
    obtain ⟨_, _, tp, p, h3⟩ := hT
    refine (Tryd.strconv_Atoi_range_var s (by omega) h1 tp p w h3).mono ?_
    rintro e w' ⟨N, rfl, _, _, hb⟩
    exact ⟨.iface 76 (.pointer (some ⟨N, 0, none⟩)), by rw [satN_eq, if_neg hv, h2]; rfl, hb⟩

theorem decDigits_eq : ∀ n : Nat, Lib.decDigits n = decN n := by
  intro n
  induction n using Nat.strongRecOn with
  | _ n ih =>
    by_cases h : 9 < n
    · rw [decN_big h, Lib.decDigits, dif_neg (by omega), ih _ (by omega)]
    · rw [decN_small h, Lib.decDigits, dif_pos (by omega)]
theorem itoa_any (n : Nat) (hn : n ≤ 9223372036854775807) (w : World) (hT : TabD w) :
    Calls Tryd.prog 28 #[.int .i64 n] w fun e w' => e = .returned (.string ⟨(decN n).toArray⟩) ∧ Below w.heap.size w w' := by
  refine (Tryd.strconv_Itoa (n : Int) (by omega) (by omega) w hT.2.1).mono ?_
  rintro e w' ⟨rfl, k, os, rfl⟩
  refine ⟨by rw [Lib.itoa, if_neg (by omega), Int.toNat_natCast, decDigits_eq], Lib.below_grow _ _ (Nat.le_refl _) _ _⟩

def takeV : Option (Nat × List UInt8) → Value
  | none => .tuple #[.int .i64 0, .string ⟨#[]⟩, .bool false]
  | some (n, r) => .tuple #[.int .i64 (n : Nat), .string ⟨r.toArray⟩, .bool true]
theorem dg_ascii : ∀ (j : Nat) b, dg[j]? = some b → b.toNat < 128 := ascii_of_all (by decide)
theorem lt_ascii : ∀ (j : Nat) b, lt[j]? = some b → b.toNat < 128 := ascii_of_all (by decide)
theorem takeWhile_mem {p : UInt8 → Bool} : ∀ (l : List UInt8) (c : UInt8), c ∈ l.takeWhile p → p c = true
  | [], c, h => by simp at h
  | a :: l, c, h => by
    by_cases ha : p a = true
    · rw [List.takeWhile_cons_of_pos ha] at h
      rcases List.mem_cons.1 h with rfl | h
      · exact ha
      · exact takeWhile_mem l c h
    · rw [List.takeWhile_cons_of_neg ha] at h
      cases h
theorem toL (l : List UInt8) : (⟨l.toArray⟩ : ByteArray).data.toList = l := by simp
theorem sizeL (l : List UInt8) : (⟨l.toArray⟩ : ByteArray).size = l.length := by show l.toArray.size = _; simp
theorem hold3 {w w1 : World} {x y z : Value} {t : TypeId} (hb : Below (w.alloc (.cells #[x, y, z] t)).heap.size (w.alloc (.cells #[x, y, z] t)) w1) :
    w1.cell? ⟨w.heap.size, 0, none⟩ = some x ∧ w1.cell? ⟨w.heap.size, 1, none⟩ = some y ∧ w1.cell? ⟨w.heap.size, 2, none⟩ = some z ∧ Below w.heap.size w w1 :=
  ⟨(hb.cell (p := ⟨w.heap.size, 0, none⟩) (by simp)).trans (by simp [World.cell?_alloc_new]), (hb.cell (p := ⟨w.heap.size, 1, none⟩) (by simp)).trans (by simp [World.cell?_alloc_new]), (hb.cell (p := ⟨w.heap.size, 2, none⟩) (by simp)).trans (by simp [World.cell?_alloc_new]),
    ((Below.refl w.heap.size w).alloc (Nat.le_refl _) _).trans (hb.mono (by simp))⟩
set_option maxHeartbeats 4000000 in
set_option maxRecDepth 100000 in
theorem durTake_any (name : List UInt8) (size : Int) (most : Nat) (hm : most ≤ 9223372036854775807) (s : ByteArray) (hs : s.size ≤ 140737488355328) (w : World) (hT : TabD w) :
    Calls Tryd.prog 19 #[.agg #[.string ⟨name.toArray⟩, .int .i64 size, .int .i64 most], .string s] w fun e w' => e = .returned (takeV (takeL name most s.data.toList)) ∧ Below w.heap.size w w' := by
  have hsl : s.data.toList.length = s.size := by rw [Array.length_toList]; rfl
  have C1 := Lib.hid (fun w => durCut_any s dg hs (by decide) dg_ascii w)
  have hl := take_drop_len (p := (dg.contains ·)) s.data.toList
  rw [hsl] at hl
  have hdig := takeWhile_mem (p := (dg.contains ·)) s.data.toList
  have HV := Lib.hid (show takeL name most s.data.toList = if (s.data.toList.dropWhile (dg.contains ·)).takeWhile (lt.contains ·) ≠ name ∨ s.data.toList.takeWhile (dg.contains ·) = [] ∨ (s.data.toList.takeWhile (dg.contains ·)).head? = some 48 then none
    else if most < satN (s.data.toList.takeWhile (dg.contains ·)) then none
    else some (satN (s.data.toList.takeWhile (dg.contains ·)), (s.data.toList.dropWhile (dg.contains ·)).dropWhile (lt.contains ·)) from rfl)
  obtain ⟨ds, hds⟩ : ∃ ds, ds = s.data.toList.takeWhile (dg.contains ·) := ⟨_, rfl⟩
  obtain ⟨af, haf⟩ : ∃ af, af = s.data.toList.dropWhile (dg.contains ·) := ⟨_, rfl⟩
  rw [← hds] at C1 hl hdig HV
  rw [← haf] at C1 hl HV
  clear hds haf
  have C2 := Lib.hid (fun w => durCut_any ⟨af.toArray⟩ lt (by rw [sizeL]; omega) (by decide) lt_ascii w)
  rw [toL] at C2
  obtain ⟨nm, hnm⟩ : ∃ nm, nm = af.takeWhile (lt.contains ·) := ⟨_, rfl⟩
  obtain ⟨rs, hrs⟩ : ∃ rs, rs = af.dropWhile (lt.contains ·) := ⟨_, rfl⟩
  rw [← hnm] at C2 HV
  rw [← hrs] at C2 HV
  clear hnm hrs
  have A0 := fun (h0 : ds ≠ []) w hT => atoi_any ⟨ds.toArray⟩ (by rw [sizeL]; omega) (by rw [toL]; exact h0) (fun c hc => (dg_iff c).1 (hdig c (by rw [toL] at hc; exact hc))) w hT
  rw [toL] at A0
  have A1 := Lib.hid A0
  clear A0
  have HT := Lib.hid hT
  have hn : satN ds ≤ 9223372036854775807 := by unfold satN; omega
  clear hT hsl hl hdig hs
  by_cases c1 : nm = name
  · subst c1
    have tn : ((⟨nm.toArray⟩ : ByteArray).toList == (⟨nm.toArray⟩ : ByteArray).toList) = true := by simp
    by_cases c2 : ds = []
    · have HF := Lib.hid (show takeL nm most s.data.toList = none by rw [HV.out, if_pos (.inr (.inl c2))])
      subst c2
      clear A1 HV
      go_enter Tryd.func19, Tryd.ntmps19
      go_wp2_with fail
      go_fit (C1.out _)
      rintro e w1 ⟨rfl, hb⟩
      have B1 := Lib.hid hb
      clear hb
      go_wp2_with fail
      go_fit (C2.out _)
      rintro e w2 ⟨rfl, hb⟩
      obtain ⟨k0, k1, k2, hb2⟩ := hold3 (B1.out.trans (hb.mono B1.out.size))
      have B2 := Lib.hid hb2
      clear hb hb2 B1
      go_wp2_with fail
      go_ret3
      exact ⟨by rw [HF.out]; rfl, B2.out⟩
    · obtain ⟨x, hx⟩ : ∃ x : ByteArray, x = ⟨ds.toArray⟩ := ⟨_, rfl⟩
      have hx0 : 0 < x.size := by rw [hx, sizeL]; exact List.length_pos_iff.2 c2
      have dn : x.toList.isEmpty = false := by rw [hx, Lib.toList_data, toL]; simpa using c2
      have hxa : ds.head? = some x[0] := by
        cases ds with
        | nil => exact absurd rfl c2
        | cons a r => subst hx; rfl
      have hix : ∀ w, (Instr.index 9 (.string x) (.int .i64 0)).run Tryd.prog w = .ok (.int .u8 (x[0].toNat : Int)) w := by
        intro w
        rw [run_index_string w _ _ _ _ Tryd.underlying9, dif_pos ⟨by omega, by omega⟩]
        rfl
      obtain ⟨b, hb⟩ : ∃ b : Nat, b = x[0].toNat := ⟨_, rfl⟩
      have hb9 := x[0].toNat_lt
      have hxb : ds.head? = some 48 ↔ b = 48 := by
        rw [hxa, hb]
        exact ⟨fun e => by injection e with e; rw [e]; rfl, fun e => by congr 1; exact UInt8.toNat_inj.1 e⟩
      rw [← hb] at hix hb9
      have hb0 : (0 : Int) ≤ b ∧ (b : Int) ≤ 255 := by omega
      clear hb hxa hx0 hb9
      have HN := Lib.hid c2
      rw [← hx] at C1 A1
      obtain ⟨n, hne⟩ : ∃ n, n = satN ds := ⟨_, rfl⟩
      rw [← hne] at A1 HV hn
      have n0 : (0 : Int) ≤ n ∧ (n : Int) ≤ 9223372036854775807 := by omega
      have m0 : (0 : Int) ≤ most ∧ (most : Int) ≤ 9223372036854775807 := by omega
      clear hne hx hn hm
      by_cases c3 : b = 48
      · have HF := Lib.hid (show takeL nm most s.data.toList = none by rw [HV.out, if_pos (.inr (.inr (hxb.2 c3)))])
        have c3i : (b : Int) = 48 := by omega
        clear A1 HV c2 hxb c3
        go_enter Tryd.func19, Tryd.ntmps19
        go_wp2_with fail
        go_fit (C1.out _)
        rintro e w1 ⟨rfl, hb⟩
        have B1 := Lib.hid hb
        clear hb
        go_wp2_with fail
        go_fit (C2.out _)
        rintro e w2 ⟨rfl, hb⟩
        obtain ⟨k0, k1, k2, hb2⟩ := hold3 (B1.out.trans (hb.mono B1.out.size))
        have B2 := Lib.hid hb2
        clear hb hb2 B1
        go_wp2_with fail
        go_ret3
        exact ⟨by rw [HF.out]; rfl, B2.out⟩
      · have c3i : ¬ (b : Int) = 48 := by omega
        have hnc : ¬ (nm ≠ nm ∨ ds = [] ∨ ds.head? = some 48) := by
          simp only [not_or]
          exact ⟨fun h => h rfl, c2, fun e => c3 (hxb.1 e)⟩
        obtain ⟨ni, hni⟩ : ∃ ni : Int, ni = (n : Int) := ⟨_, rfl⟩
        obtain ⟨mi, hmi⟩ : ∃ mi : Int, mi = (most : Int) := ⟨_, rfl⟩
        rw [← hni] at A1 n0
        rw [← hmi] at m0 ⊢
        have HNI := Lib.hid hni
        by_cases c4 : most < n
        · have HF := Lib.hid (show takeL nm most s.data.toList = none by rw [HV.out, if_neg hnc, if_pos c4])
          have c4i : mi < ni := by omega
          clear HV c2 hxb hnc c3 c4 hni hmi
          go_enter Tryd.func19, Tryd.ntmps19
          go_wp2_with fail
          go_fit (C1.out _)
          rintro e w1 ⟨rfl, hb⟩
          have B1 := Lib.hid hb
          clear hb
          go_wp2_with fail
          go_fit (C2.out _)
          rintro e w2 ⟨rfl, hb⟩
          obtain ⟨k0, k1, k2, hb2⟩ := hold3 (B1.out.trans (hb.mono B1.out.size))
          have B2 := Lib.hid hb2
          clear hb hb2 B1
          go_wp2_with fail
          go_fit (A1.out (fun e => HN.out e) _ (HT.out.below B2.out))
          rintro e w3 ⟨ev, rfl, hb⟩
          have q2 := (hb.cell (p := ⟨w.heap.size, 2, none⟩) (World.block_lt_of_cell? _ _ k2)).trans k2
          have B3 := Lib.hid (B2.out.trans (hb.mono B2.out.size))
          clear hb k0 k1 k2
          go_wp2_with fail
          go_ret3
          exact ⟨by rw [HF.out]; rfl, B3.out⟩
        · have HF := Lib.hid (show takeL nm most s.data.toList = some (n, rs) by rw [HV.out, if_neg hnc, if_neg c4])
          have c4i : ¬ mi < ni := by omega
          clear HV c2 hxb hnc c3 c4 hni hmi
          go_enter Tryd.func19, Tryd.ntmps19
          go_wp2_with fail
          go_fit (C1.out _)
          rintro e w1 ⟨rfl, hb⟩
          have B1 := Lib.hid hb
          clear hb
          go_wp2_with fail
          go_fit (C2.out _)
          rintro e w2 ⟨rfl, hb⟩
          obtain ⟨k0, k1, k2, hb2⟩ := hold3 (B1.out.trans (hb.mono B1.out.size))
          have B2 := Lib.hid hb2
          clear hb hb2 B1
          go_wp2_with fail
          go_fit (A1.out (fun e => HN.out e) _ (HT.out.below B2.out))
          rintro e w3 ⟨ev, rfl, hb⟩
          have q2 := (hb.cell (p := ⟨w.heap.size, 2, none⟩) (World.block_lt_of_cell? _ _ k2)).trans k2
          have B3 := Lib.hid (B2.out.trans (hb.mono B2.out.size))
          clear hb k0 k1 k2
          go_wp2_with fail
          go_ret3
          exact ⟨by rw [HF.out, takeV, ← HNI.out]; rfl, B3.out⟩
  · have HF := Lib.hid (show takeL name most s.data.toList = none by rw [HV.out, if_pos (.inl c1)])
    have tn : ((⟨nm.toArray⟩ : ByteArray).toList == (⟨name.toArray⟩ : ByteArray).toList) = false := by
      rw [Lib.toList_data, Lib.toList_data, toL, toL]
      simpa using c1
    clear A1 HV
    go_enter Tryd.func19, Tryd.ntmps19
    go_wp2_with fail
    go_fit (C1.out _)
    rintro e w1 ⟨rfl, hb⟩
    have B1 := Lib.hid hb
    clear hb
    go_wp2_with fail
    go_fit (C2.out _)
    rintro e w2 ⟨rfl, hb⟩
    obtain ⟨k0, k1, k2, hb2⟩ := hold3 (B1.out.trans (hb.mono B1.out.size))
    have B2 := Lib.hid hb2
    clear hb hb2 B1
    go_wp2_with fail
    go_ret3
    exact ⟨by rw [HF.out]; rfl, B2.out⟩
end Go.Proofs.YtaalfnfikjmomaaDoor
