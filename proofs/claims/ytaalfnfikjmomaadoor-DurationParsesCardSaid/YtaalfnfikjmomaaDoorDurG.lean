/- The contract of the document's Parse (duration). -/
import Derived.Test.YtaalfnfikjmomaaDoorDurF
import Derived.Test.YtaalfnfikjmomaaDoorDurT
namespace Go.Proofs.YtaalfnfikjmomaaDoor
open Go.RowKit Go.Lib

theorem refUnit_any (s : ByteArray) (i : Nat) (hs : s.size ≤ 140737488355328) (hi : i ≤ s.size) (w : World) :
    Calls Tryd.prog 23 #[.string s, .int .i64 i] w fun e w' => e = .returned (.int .i64 (unitI (s.data.toList.drop i))) ∧ Below w.heap.size w w' := by
  by_cases h : i < s.size
  · exact refUnit_in s i hs h w
  · obtain rfl : i = s.size := by omega
    rw [List.drop_eq_nil_of_le (by rw [Array.length_toList]; exact Nat.le_refl _)]
    exact refUnit_end s hs w
theorem parse_none {f : Nat} {l : List UInt8} {sum k : Nat} {large : Bool} (h0 : l ≠ [])
    (h : unitI (numL 0 l).2 < k ∨ (numL 0 l).2.length = l.length ∨ l.head? = some 48 ∨ ∃ u, unitI (numL 0 l).2 = (u : Nat) ∧ 0 < u ∧ belowU u ≤ (numL 0 l).1) : parseL f l sum k large = none := by
  cases hp : parseL f l sum k large with
  | none => rfl
  | some q =>
    obtain ⟨g, u, _, hu, hn⟩ := parse_some hp h0
    have e : unitI (numL 0 l).2 = u := by unfold unitI; rw [hu]
    rw [e] at h
    rcases h with h | h | h | ⟨v, hv, h1, h2⟩
    · exact absurd (.inr (.inr (.inl (by omega)))) hn
    · exact absurd (.inl h) hn
    · exact absurd (.inr (.inl h)) hn
    · obtain rfl : u = v := by omega
      exact absurd (.inr (.inr (.inr ⟨h1, h2⟩))) hn
theorem unitI_some {l : List UInt8} {u : Nat} (h : unitI l = (u : Int)) : unitL l = some u := by
  unfold unitI at h
  cases hu : unitL l with
  | none => rw [hu] at h; have h : (-1 : Int) = u := h; omega
  | some v => rw [hu] at h; have h : (v : Int) = u := h; congr 1; omega
theorem unitI_le (l : List UInt8) : unitI l = -1 ∨ ∃ u : Nat, u ≤ 4 ∧ unitI l = u := by
  cases hu : unitL l with
  | none => left; unfold unitI; rw [hu]
  | some v => right; exact ⟨v, (unit_of hu).1, by unfold unitI; rw [hu]⟩

theorem room_mono2 (k v : Nat) (h : k ≤ v) (hv : v ≤ 4) : roomK k ≤ roomK v := by
  rcases (show v = 0 ∨ v = 1 ∨ v = 2 ∨ v = 3 ∨ v = 4 by omega) with rfl | rfl | rfl | rfl | rfl <;>
    rcases (show k = 0 ∨ k = 1 ∨ k = 2 ∨ k = 3 ∨ k = 4 by omega) with rfl | rfl | rfl | rfl | rfl <;> simp only [roomK] <;> omega
set_option maxHeartbeats 4000000 in
set_option maxRecDepth 100000 in
theorem refParseD_any (s : ByteArray) (hs : s.size ≤ 140737488355328) (w : World) :
    Calls Tryd.prog 10 #[.string s] w fun e w' => e = .returned (.tuple #[.int .i64 ((docP s.data.toList).1 : Nat), .int .i64 ((docP s.data.toList).2 : Nat)]) ∧ Below w.heap.size w w' := by
  have hsl : s.data.toList.length = s.size := by rw [Array.length_toList]; rfl
  by_cases hz : s.data.toList = [48, 115]
  · have HF := Lib.hid (show docP s.data.toList = (0, 0) by unfold docP; rw [if_pos hz])
    have g0 : (s.toList == [48, 115]) = true := by rw [Lib.toList_data, hz]; rfl
    clear hz hsl
    go_enter Tryd.func10, Tryd.ntmps10
    go_wp2_with fail
    go_ret2
    exact ⟨by rw [HF.out]; rfl, Below.refl _ _⟩
  have g0 : (s.toList == [48, 115]) = false := by rw [Lib.toList_data]; simpa using hz
  by_cases hn : s.data.toList = []
  · have HF := Lib.hid (show docP s.data.toList = (0, 5) by unfold docP; rw [if_neg hz, if_pos hn])
    have g1 : s.toList.isEmpty = true := by rw [Lib.toList_data, hn]; rfl
    clear hz hn hsl
    go_enter Tryd.func10, Tryd.ntmps10
    go_wp2_with fail
    go_ret2
    exact ⟨by rw [HF.out]; rfl, Below.refl _ _⟩
  have g1 : s.toList.isEmpty = false := by rw [Lib.toList_data]; simpa using hn
  have HF := Lib.hid (show (parseL 5 s.data.toList 0 0 false = none → docP s.data.toList = (0, 5)) ∧ (∀ t b, parseL 5 s.data.toList 0 0 false = some (t, b) → docP s.data.toList = if b = true ∨ MT < t then (0, 2) else (t, 0)) from by
    unfold docP
    rw [if_neg hz, if_neg hn]
    exact ⟨fun e => by rw [e], fun t b e => by rw [e]⟩)
  clear hz hn
  go_enter Tryd.func10, Tryd.ntmps10
  go_wp2_with fail
  go_loopw [4, 5, 6, 7] (fun s4 s5 s6 s7 wr => ∃ (f k sum a : Nat) (large : Bool), k ≤ 5 ∧ 5 ≤ f + k ∧ sum ≤ roomK k ∧ a ≤ s.size ∧ parseL 5 s.data.toList 0 0 false = parseL f (s.data.toList.drop a) sum k large ∧ s4 = .int .i64 (sum : Int) ∧ s5 = .int .i64 (a : Int) ∧ s6 = .int .i64 ((k : Int) - 1) ∧ s7 = .bool large ∧ Below w.heap.size w wr) (fun _ s5 _ _ _ => s.size - (RowKit.intOf s5).toNat)
  case atStart => exact ⟨5, 0, 0, 0, false, by omega, by omega, by simp [roomK], by omega, rfl, rfl, rfl, rfl, rfl, Below.refl _ _⟩
  case round =>
    obtain ⟨f, k, sum, a, large, hk, hf, hsum, ha, he, rfl, rfl, rfl, rfl, hb⟩ := hrel
    have HE := Lib.hid he
    have HB := Lib.hid hb
    have hroom := room_le k
    clear he hb
    by_cases hlt : a < s.size
    · have N := Lib.hid (fun w => refNumber_any s a hs ha w)
      have hdr := drop_cons s a hlt
      have h0 : s.data.toList.drop a ≠ [] := by rw [hdr]; simp
      have hcap := numL_cap (s.data.toList.drop a) 0 (by omega)
      have hlen := numL_len (s.data.toList.drop a) 0
      have hll : (s.data.toList.drop a).length = s.size - a := by rw [List.length_drop, hsl]
      have hnd := num_drop (s.data.toList.drop a) 0
      obtain ⟨t, ht⟩ := List.dropWhile_suffix dg.contains (l := s.data.toList.drop a)
      rw [← hnd] at ht
      have htl := congrArg List.length ht
      rw [List.length_append, hll] at htl
      have hrest : (numL 0 (s.data.toList.drop a)).2 = s.data.toList.drop (s.size - (numL 0 (s.data.toList.drop a)).2.length) := by
        rw [show s.size - (numL 0 (s.data.toList.drop a)).2.length = a + t.length by omega, ← List.drop_drop]
        conv => rhs; rw [← ht]
        rw [List.drop_left]
      obtain ⟨n, hne⟩ : ∃ n, n = (numL 0 (s.data.toList.drop a)).1 := ⟨_, rfl⟩
      obtain ⟨en, hen⟩ : ∃ en, en = s.size - (numL 0 (s.data.toList.drop a)).2.length := ⟨_, rfl⟩
      have U := Lib.hid (fun w => refUnit_any s en hs (by omega) w)
      have hu := unitI_le (s.data.toList.drop en)
      have hue : unitI (s.data.toList.drop en) = unitI (numL 0 (s.data.toList.drop a)).2 := by rw [hen, ← hrest]
      obtain ⟨u, hU⟩ : ∃ u, u = unitI (s.data.toList.drop en) := ⟨_, rfl⟩
      rw [← hU] at U hu hue
      rw [← hne, ← hen] at N
      rw [← hne] at hcap
      have n0 : (0 : Int) ≤ n ∧ (n : Int) ≤ 99999999 := by omega
      have a0 : (0 : Int) ≤ a ∧ (a : Int) < (s.size : Int) := by omega
      have e0 : (0 : Int) ≤ en ∧ (en : Int) ≤ (s.size : Int) ∧ (s.size : Int) ≤ 140737488355328 := by omega
      have u0 : -1 ≤ u ∧ u ≤ 4 := by rcases hu with h | ⟨v, hv, h⟩ <;> omega
      have HUV := Lib.hid hu
      clear hu
      have k0 : (0 : Int) ≤ (k : Int) - 1 + 1 ∧ (k : Int) - 1 ≤ 4 := by omega
      have s0 : (0 : Int) ≤ sum ∧ (sum : Int) ≤ 2251799813685248000 := by omega
      have hix : ∀ w, (Instr.index 9 (.string s) (.int .i64 (a : Int))).run Tryd.prog w = .ok (.int .u8 (s[a].toNat : Int)) w := by
        intro w
        rw [run_index_string w _ _ _ _ Tryd.underlying9, dif_pos ⟨by omega, by omega⟩]
        rfl
      obtain ⟨c, hc⟩ : ∃ c, c = s[a].toNat := ⟨_, rfl⟩
      have hch : (s.data.toList.drop a).head? = some 48 ↔ c = 48 := by
        rw [hdr, List.head?_cons, hc]
        exact ⟨fun e => by rw [Option.some.inj e]; rfl, fun e => by congr 1; exact UInt8.toNat_inj.1 e⟩
      rw [← hc] at hix
      have hrl2 : (numL 0 (s.data.toList.drop a)).2.length = s.size - en := by omega
      have henle : en ≤ s.size := by omega
      have hale : a ≤ en := by omega
      have HS := Lib.hid (show unitI (numL 0 (s.data.toList.drop a)).2 = u ∧ (numL 0 (s.data.toList.drop a)).1 = n ∧ (numL 0 (s.data.toList.drop a)).2.length = s.size - en ∧ s.data.toList.drop a ≠ [] ∧ (s.data.toList.drop a).length = s.size - a ∧ en ≤ s.size ∧ (numL 0 (s.data.toList.drop a)).2 = s.data.toList.drop en ∧ ((s.data.toList.drop a).head? = some 48 ↔ c = 48) ∧ (sum ≤ roomK k) from ⟨hue.symm, hne.symm, hrl2, h0, hll, henle, by rw [hen]; exact hrest, hch, hsum⟩)
      have HC := Lib.hid (show c = 48 ↔ (c : Int) = 48 by omega)
      clear hdr h0 hcap hlen hll hnd ht htl hrest hne hen hue hU hc hch hroom hsum hrl2 henle
      by_cases c1 : en = a
      · have HN := Lib.hid (HF.out.1 (by rw [HE.out]; exact parse_none HS.out.2.2.2.1 (.inr (.inl (by rw [HS.out.2.2.1, HS.out.2.2.2.2.1, c1])))))
        subst c1
        go_wp2_with fail
        go_fit (N.out _)
        rintro e w1 ⟨rfl, rfl⟩
        go_wp2_with fail
        go_fit (U.out _)
        rintro e w2 ⟨rfl, hb2⟩
        have B2 := Lib.hid (HB.out.trans (hb2.mono HB.out.size))
        clear hb2
        go_wp2_with fail
        go_ret2
        exact ⟨by rw [HN.out]; rfl, B2.out⟩
      have c1i : ((en : Int) == (a : Int)) = false := by rw [beq_eq_false_iff_ne]; omega
      have C1 := Lib.hid c1
      by_cases c2 : c = 48
      · have HN := Lib.hid (HF.out.1 (by rw [HE.out]; exact parse_none HS.out.2.2.2.1 (.inr (.inr (.inl (HS.out.2.2.2.2.2.2.2.1.2 c2))))))
        have c2i : ((c : Int) == 48) = true := by rw [beq_iff_eq]; omega
        clear c1 c2
        go_wp2_with fail
        go_fit (N.out _)
        rintro e w1 ⟨rfl, rfl⟩
        go_wp2_with fail
        go_fit (U.out _)
        rintro e w2 ⟨rfl, hb2⟩
        have B2 := Lib.hid (HB.out.trans (hb2.mono HB.out.size))
        clear hb2
        go_wp2_with fail
        go_ret2
        exact ⟨by rw [HN.out]; rfl, B2.out⟩
      have c2i : ((c : Int) == 48) = false := by rw [beq_eq_false_iff_ne]; omega
      have C2 := Lib.hid c2
      by_cases c3 : u < k
      · have HN := Lib.hid (HF.out.1 (by rw [HE.out]; exact parse_none HS.out.2.2.2.1 (.inl (by rw [HS.out.1]; exact c3))))
        have c3i : u ≤ (k : Int) - 1 := by omega
        clear c1 c2 c3
        go_wp2_with fail
        go_fit (N.out _)
        rintro e w1 ⟨rfl, rfl⟩
        go_wp2_with fail
        go_fit (U.out _)
        rintro e w2 ⟨rfl, hb2⟩
        have B2 := Lib.hid (HB.out.trans (hb2.mono HB.out.size))
        clear hb2
        go_wp2_with fail
        go_ret2
        exact ⟨by rw [HN.out]; rfl, B2.out⟩
      have c3i : ¬ u ≤ (k : Int) - 1 := by omega
      have C3 := Lib.hid c3
      obtain ⟨v, hv, rfl⟩ : ∃ v : Nat, v ≤ 4 ∧ u = v := by
        rcases HUV.out with h | h
        · omega
        · exact h
      have BL := Lib.hid (fun w => refBelow_any v hv w)
      by_cases c4 : 0 < v ∧ belowU v ≤ n
      · have HN := Lib.hid (HF.out.1 (by rw [HE.out]; exact parse_none HS.out.2.2.2.1 (.inr (.inr (.inr ⟨v, HS.out.1, c4.1, by rw [HS.out.2.1]; exact c4.2⟩)))))
        obtain ⟨b, hb⟩ : ∃ b, b = belowU v := ⟨_, rfl⟩
        rw [← hb] at BL c4
        have c4i : (0 : Int) < v ∧ (b : Int) ≤ (n : Int) := by omega
        clear c1 c2 c3 c4 hv hb
        go_wp2_with fail
        go_fit (N.out _)
        rintro e w1 ⟨rfl, rfl⟩
        go_wp2_with fail
        go_fit (U.out _)
        rintro e w2 ⟨rfl, hb2⟩
        have B2 := Lib.hid (HB.out.trans (hb2.mono HB.out.size))
        clear hb2
        go_wp2_with fail
        go_fit (BL.out _)
        rintro e w3 ⟨rfl, hb3⟩
        have B3 := Lib.hid (B2.out.trans (hb3.mono B2.out.size))
        clear hb3
        go_wp2_with fail
        go_ret2
        exact ⟨by rw [HN.out]; rfl, B3.out⟩
      · obtain ⟨g, rfl⟩ : ∃ g, f = g + 1 := ⟨f - 1, by omega⟩
        have hcc : ¬ ((numL 0 (s.data.toList.drop a)).2.length = (s.data.toList.drop a).length ∨ (s.data.toList.drop a).head? = some 48 ∨ v < k ∨ (0 < v ∧ belowU v ≤ (numL 0 (s.data.toList.drop a)).1)) := by
          rintro (h | h | h | h)
          · rw [HS.out.2.2.1, HS.out.2.2.2.2.1] at h
            have := HS.out.2.2.2.2.2.1
            omega
          · exact c2 (HS.out.2.2.2.2.2.2.2.1.1 h)
          · omega
          · rw [HS.out.2.1] at h; exact c4 h
        obtain ⟨ni, hni⟩ : ∃ ni : Int, ni = (n : Int) := ⟨_, rfl⟩
        obtain ⟨si, hsi⟩ : ∃ si : Int, si = (sum : Int) := ⟨_, rfl⟩
        rw [← hni] at N
        have n9 : 0 ≤ ni ∧ ni ≤ 99999999 := by omega
        have s9 : 0 ≤ si ∧ si ≤ 2251799813685248000 := by omega
        rw [← hsi]
        rcases (show v = 0 ∨ v = 1 ∨ v = 2 ∨ v = 3 ∨ v = 4 by omega) with rfl | rfl | rfl | rfl | rfl
        · by_cases q1 : 13031250 < n
          · have HP := Lib.hid (show parseL 5 s.data.toList 0 0 false = parseL g (s.data.toList.drop (en + 1)) (sum + 0) (0 + 1) true by
              rw [HE.out, parse_step HS.out.2.2.2.1 (unitI_some HS.out.1) hcc, if_pos ⟨rfl, by rw [HS.out.2.1]; exact q1⟩, HS.out.2.2.2.2.2.2.1, List.drop_drop]; rfl)
            have HR := Lib.hid (show sum + 0 ≤ roomK (0 + 1) from by have := room_mono2 k 0 (by omega) (by omega); have := room_mono 0 (by omega); have := HS.out.2.2.2.2.2.2.2.2; omega)
            have q1i : (13031250 : Int) < ni := by omega
            have HG := Lib.hid (show 5 ≤ g + (0 + 1) by omega)
            have HL := Lib.hid (show en + 1 ≤ s.size ∧ a < en + 1 from by
              have h := congrArg List.length (unit_of (unitI_some HS.out.1)).2
              rw [List.length_append, HS.out.2.2.1, show (nameU 0).length = 1 from rfl] at h
              have := HS.out.2.2.2.2.2.1
              omega)
            have SZ := Lib.hid (show ∀ w, Calls Tryd.prog 25 #[.int .i64 0] w fun e w' => e = .returned (.int .i64 86400000) ∧ Below w.heap.size w w' from fun w => refUnitSize_any 0 (by omega) w)
            have NM := Lib.hid (show ∀ w, Calls Tryd.prog 26 #[.int .i64 0] w fun e w' => e = .returned (.string ⟨#[100]⟩) ∧ Below w.heap.size w w' from fun w => refUnitName_any 0 (by omega) w)
            have e1 : (en : Int) + 1 ≤ (s.size : Int) := by have := HL.out; omega
            rw [show (((0 : Nat) : Int)) = 0 from rfl] at U c3i u0
            have BL := Lib.hid (show ∀ w, Calls Tryd.prog 24 #[.int .i64 0] w fun e w' => e = .returned (.int .i64 0) ∧ Below w.heap.size w w' from fun w => refBelow_any 0 (by omega) w)
            obtain ⟨ki, hki⟩ : ∃ ki : Int, ki = (k : Int) - 1 := ⟨_, rfl⟩
            rw [← hki] at c3i ⊢
            clear hki k0 u0
            have HNI := Lib.hid (And.intro hni hsi)
            clear c1 c2 c3 c4 hcc hale hni hsi n0 s0 q1
            go_wp2_with fail
            go_fit (N.out _)
            rintro e w1 ⟨rfl, rfl⟩
            go_wp2_with fail
            go_fit (U.out _)
            rintro e w2 ⟨rfl, hb2⟩
            have B2 := Lib.hid (HB.out.trans (hb2.mono HB.out.size))
            clear hb2
            go_wp2_with fail
            have B3 := B2
            go_fit (SZ.out _)
            rintro e w4 ⟨rfl, hb4⟩
            have B4 := Lib.hid (B3.out.trans (hb4.mono B3.out.size))
            clear hb4
            go_wp2_with fail
            go_fit (NM.out _)
            rintro e w5 ⟨rfl, hb5⟩
            have B5 := Lib.hid (B4.out.trans (hb5.mono B4.out.size))
            clear hb5
            go_wp2_with fail
            go_roundw
            case rel => exact ⟨g, 0 + 1, _, en + 1, true, by omega, HG.out, HR.out, HL.out.1, HP.out, by rw [HNI.out.2]; go_num, by go_num, by go_num, rfl, B5.out⟩
            case measure => have := HL.out; simp [RowKit.intOf]; omega
          · have HP := Lib.hid (show parseL 5 s.data.toList 0 0 false = parseL g (s.data.toList.drop (en + 1)) (sum + n * 86400000) (0 + 1) large by
              rw [HE.out, parse_step HS.out.2.2.2.1 (unitI_some HS.out.1) hcc, if_neg (by rw [HS.out.2.1]; exact fun e => q1 e.2), HS.out.2.2.2.2.2.2.1, HS.out.2.1, List.drop_drop]; rfl)
            have HR := Lib.hid (show sum + n * 86400000 ≤ roomK (0 + 1) from by
              have h := room_step (k := 0) (v := n) (sum := sum) (by omega) (Nat.le_trans HS.out.2.2.2.2.2.2.2.2 (room_mono2 k 0 (by omega) (by omega))) (by rw [Nat.min_eq_left (by omega)]; exact c4) (by rw [Nat.min_eq_left (by omega)]; exact fun e => q1 e.2)
              rw [Nat.min_eq_left (by omega)] at h
              exact h)
            have q1i : ¬ (13031250 : Int) < ni := by omega
            have HG := Lib.hid (show 5 ≤ g + (0 + 1) by omega)
            have HL := Lib.hid (show en + 1 ≤ s.size ∧ a < en + 1 from by
              have h := congrArg List.length (unit_of (unitI_some HS.out.1)).2
              rw [List.length_append, HS.out.2.2.1, show (nameU 0).length = 1 from rfl] at h
              have := HS.out.2.2.2.2.2.1
              omega)
            have SZ := Lib.hid (show ∀ w, Calls Tryd.prog 25 #[.int .i64 0] w fun e w' => e = .returned (.int .i64 86400000) ∧ Below w.heap.size w w' from fun w => refUnitSize_any 0 (by omega) w)
            have NM := Lib.hid (show ∀ w, Calls Tryd.prog 26 #[.int .i64 0] w fun e w' => e = .returned (.string ⟨#[100]⟩) ∧ Below w.heap.size w w' from fun w => refUnitName_any 0 (by omega) w)
            have e1 : (en : Int) + 1 ≤ (s.size : Int) := by have := HL.out; omega
            rw [show (((0 : Nat) : Int)) = 0 from rfl] at U c3i u0
            have BL := Lib.hid (show ∀ w, Calls Tryd.prog 24 #[.int .i64 0] w fun e w' => e = .returned (.int .i64 0) ∧ Below w.heap.size w w' from fun w => refBelow_any 0 (by omega) w)
            obtain ⟨ki, hki⟩ : ∃ ki : Int, ki = (k : Int) - 1 := ⟨_, rfl⟩
            rw [← hki] at c3i ⊢
            clear hki k0 u0
            have HNI := Lib.hid (And.intro hni hsi)
            clear c1 c2 c3 c4 hcc hale hni hsi n0 s0 q1
            go_wp2_with fail
            go_fit (N.out _)
            rintro e w1 ⟨rfl, rfl⟩
            go_wp2_with fail
            go_fit (U.out _)
            rintro e w2 ⟨rfl, hb2⟩
            have B2 := Lib.hid (HB.out.trans (hb2.mono HB.out.size))
            clear hb2
            go_wp2_with fail
            have B3 := B2
            go_fit (SZ.out _)
            rintro e w4 ⟨rfl, hb4⟩
            have B4 := Lib.hid (B3.out.trans (hb4.mono B3.out.size))
            clear hb4
            go_wp2_with fail
            go_fit (NM.out _)
            rintro e w5 ⟨rfl, hb5⟩
            have B5 := Lib.hid (B4.out.trans (hb5.mono B4.out.size))
            clear hb5
            go_wp2_with fail
            go_roundw
            case rel => exact ⟨g, 0 + 1, _, en + 1, large, by omega, HG.out, HR.out, HL.out.1, HP.out, by rw [HNI.out.1, HNI.out.2, Int.natCast_add, Int.natCast_mul]; rfl, by go_num, by go_num, rfl, B5.out⟩
            case measure => have := HL.out; simp [RowKit.intOf]; omega
        · have HP := Lib.hid (show parseL 5 s.data.toList 0 0 false = parseL g (s.data.toList.drop (en + 1)) (sum + n * 3600000) (1 + 1) large by
            rw [HE.out, parse_step HS.out.2.2.2.1 (unitI_some HS.out.1) hcc, if_neg (by rw [HS.out.2.1]; omega), HS.out.2.2.2.2.2.2.1, HS.out.2.1, List.drop_drop]; rfl)
          have HR := Lib.hid (show sum + n * 3600000 ≤ roomK (1 + 1) from by
            have h := room_step (k := 1) (v := n) (sum := sum) (by omega) (Nat.le_trans HS.out.2.2.2.2.2.2.2.2 (room_mono2 k 1 (by omega) (by omega))) (by rw [Nat.min_eq_left (by omega)]; exact c4) (by rw [Nat.min_eq_left (by omega)]; omega)
            rw [Nat.min_eq_left (by omega)] at h
            exact h)
          have q1i : ¬ (24 : Int) ≤ ni := by have : ¬ 24 ≤ n := fun e => c4 ⟨by omega, e⟩; omega
          have HG := Lib.hid (show 5 ≤ g + (1 + 1) by omega)
          have HL := Lib.hid (show en + 1 ≤ s.size ∧ a < en + 1 from by
            have h := congrArg List.length (unit_of (unitI_some HS.out.1)).2
            rw [List.length_append, HS.out.2.2.1, show (nameU 1).length = 1 from rfl] at h
            have := HS.out.2.2.2.2.2.1
            omega)
          have SZ := Lib.hid (show ∀ w, Calls Tryd.prog 25 #[.int .i64 1] w fun e w' => e = .returned (.int .i64 3600000) ∧ Below w.heap.size w w' from fun w => refUnitSize_any 1 (by omega) w)
          have NM := Lib.hid (show ∀ w, Calls Tryd.prog 26 #[.int .i64 1] w fun e w' => e = .returned (.string ⟨#[104]⟩) ∧ Below w.heap.size w w' from fun w => refUnitName_any 1 (by omega) w)
          have e1 : (en : Int) + 1 ≤ (s.size : Int) := by have := HL.out; omega
          rw [show (((1 : Nat) : Int)) = 1 from rfl] at U c3i u0
          have BL := Lib.hid (show ∀ w, Calls Tryd.prog 24 #[.int .i64 1] w fun e w' => e = .returned (.int .i64 24) ∧ Below w.heap.size w w' from fun w => refBelow_any 1 (by omega) w)
          obtain ⟨ki, hki⟩ : ∃ ki : Int, ki = (k : Int) - 1 := ⟨_, rfl⟩
          rw [← hki] at c3i ⊢
          clear hki k0 u0
          have HNI := Lib.hid (And.intro hni hsi)
          clear c1 c2 c3 c4 hcc hale hni hsi n0 s0 
          go_wp2_with fail
          go_fit (N.out _)
          rintro e w1 ⟨rfl, rfl⟩
          go_wp2_with fail
          go_fit (U.out _)
          rintro e w2 ⟨rfl, hb2⟩
          have B2 := Lib.hid (HB.out.trans (hb2.mono HB.out.size))
          clear hb2
          go_wp2_with fail
          go_fit (BL.out _)
          rintro e w3 ⟨rfl, hb3⟩
          have B3 := Lib.hid (B2.out.trans (hb3.mono B2.out.size))
          clear hb3
          go_wp2_with fail
          go_fit (SZ.out _)
          rintro e w4 ⟨rfl, hb4⟩
          have B4 := Lib.hid (B3.out.trans (hb4.mono B3.out.size))
          clear hb4
          go_wp2_with fail
          go_fit (NM.out _)
          rintro e w5 ⟨rfl, hb5⟩
          have B5 := Lib.hid (B4.out.trans (hb5.mono B4.out.size))
          clear hb5
          go_wp2_with fail
          go_roundw
          case rel => exact ⟨g, 1 + 1, _, en + 1, large, by omega, HG.out, HR.out, HL.out.1, HP.out, by rw [HNI.out.1, HNI.out.2, Int.natCast_add, Int.natCast_mul]; rfl, by go_num, by go_num, rfl, B5.out⟩
          case measure => have := HL.out; simp [RowKit.intOf]; omega
        · have HP := Lib.hid (show parseL 5 s.data.toList 0 0 false = parseL g (s.data.toList.drop (en + 1)) (sum + n * 60000) (2 + 1) large by
            rw [HE.out, parse_step HS.out.2.2.2.1 (unitI_some HS.out.1) hcc, if_neg (by rw [HS.out.2.1]; omega), HS.out.2.2.2.2.2.2.1, HS.out.2.1, List.drop_drop]; rfl)
          have HR := Lib.hid (show sum + n * 60000 ≤ roomK (2 + 1) from by
            have h := room_step (k := 2) (v := n) (sum := sum) (by omega) (Nat.le_trans HS.out.2.2.2.2.2.2.2.2 (room_mono2 k 2 (by omega) (by omega))) (by rw [Nat.min_eq_left (by omega)]; exact c4) (by rw [Nat.min_eq_left (by omega)]; omega)
            rw [Nat.min_eq_left (by omega)] at h
            exact h)
          have q1i : ¬ (60 : Int) ≤ ni := by have : ¬ 60 ≤ n := fun e => c4 ⟨by omega, e⟩; omega
          have HG := Lib.hid (show 5 ≤ g + (2 + 1) by omega)
          have HL := Lib.hid (show en + 1 ≤ s.size ∧ a < en + 1 from by
            have h := congrArg List.length (unit_of (unitI_some HS.out.1)).2
            rw [List.length_append, HS.out.2.2.1, show (nameU 2).length = 1 from rfl] at h
            have := HS.out.2.2.2.2.2.1
            omega)
          have SZ := Lib.hid (show ∀ w, Calls Tryd.prog 25 #[.int .i64 2] w fun e w' => e = .returned (.int .i64 60000) ∧ Below w.heap.size w w' from fun w => refUnitSize_any 2 (by omega) w)
          have NM := Lib.hid (show ∀ w, Calls Tryd.prog 26 #[.int .i64 2] w fun e w' => e = .returned (.string ⟨#[109]⟩) ∧ Below w.heap.size w w' from fun w => refUnitName_any 2 (by omega) w)
          have e1 : (en : Int) + 1 ≤ (s.size : Int) := by have := HL.out; omega
          rw [show (((2 : Nat) : Int)) = 2 from rfl] at U c3i u0
          have BL := Lib.hid (show ∀ w, Calls Tryd.prog 24 #[.int .i64 2] w fun e w' => e = .returned (.int .i64 60) ∧ Below w.heap.size w w' from fun w => refBelow_any 2 (by omega) w)
          obtain ⟨ki, hki⟩ : ∃ ki : Int, ki = (k : Int) - 1 := ⟨_, rfl⟩
          rw [← hki] at c3i ⊢
          clear hki k0 u0
          have HNI := Lib.hid (And.intro hni hsi)
          clear c1 c2 c3 c4 hcc hale hni hsi n0 s0 
          go_wp2_with fail
          go_fit (N.out _)
          rintro e w1 ⟨rfl, rfl⟩
          go_wp2_with fail
          go_fit (U.out _)
          rintro e w2 ⟨rfl, hb2⟩
          have B2 := Lib.hid (HB.out.trans (hb2.mono HB.out.size))
          clear hb2
          go_wp2_with fail
          go_fit (BL.out _)
          rintro e w3 ⟨rfl, hb3⟩
          have B3 := Lib.hid (B2.out.trans (hb3.mono B2.out.size))
          clear hb3
          go_wp2_with fail
          go_fit (SZ.out _)
          rintro e w4 ⟨rfl, hb4⟩
          have B4 := Lib.hid (B3.out.trans (hb4.mono B3.out.size))
          clear hb4
          go_wp2_with fail
          go_fit (NM.out _)
          rintro e w5 ⟨rfl, hb5⟩
          have B5 := Lib.hid (B4.out.trans (hb5.mono B4.out.size))
          clear hb5
          go_wp2_with fail
          go_roundw
          case rel => exact ⟨g, 2 + 1, _, en + 1, large, by omega, HG.out, HR.out, HL.out.1, HP.out, by rw [HNI.out.1, HNI.out.2, Int.natCast_add, Int.natCast_mul]; rfl, by go_num, by go_num, rfl, B5.out⟩
          case measure => have := HL.out; simp [RowKit.intOf]; omega
        · have HP := Lib.hid (show parseL 5 s.data.toList 0 0 false = parseL g (s.data.toList.drop (en + 1)) (sum + n * 1000) (3 + 1) large by
            rw [HE.out, parse_step HS.out.2.2.2.1 (unitI_some HS.out.1) hcc, if_neg (by rw [HS.out.2.1]; omega), HS.out.2.2.2.2.2.2.1, HS.out.2.1, List.drop_drop]; rfl)
          have HR := Lib.hid (show sum + n * 1000 ≤ roomK (3 + 1) from by
            have h := room_step (k := 3) (v := n) (sum := sum) (by omega) (Nat.le_trans HS.out.2.2.2.2.2.2.2.2 (room_mono2 k 3 (by omega) (by omega))) (by rw [Nat.min_eq_left (by omega)]; exact c4) (by rw [Nat.min_eq_left (by omega)]; omega)
            rw [Nat.min_eq_left (by omega)] at h
            exact h)
          have q1i : ¬ (60 : Int) ≤ ni := by have : ¬ 60 ≤ n := fun e => c4 ⟨by omega, e⟩; omega
          have HG := Lib.hid (show 5 ≤ g + (3 + 1) by omega)
          have HL := Lib.hid (show en + 1 ≤ s.size ∧ a < en + 1 from by
            have h := congrArg List.length (unit_of (unitI_some HS.out.1)).2
            rw [List.length_append, HS.out.2.2.1, show (nameU 3).length = 1 from rfl] at h
            have := HS.out.2.2.2.2.2.1
            omega)
          have SZ := Lib.hid (show ∀ w, Calls Tryd.prog 25 #[.int .i64 3] w fun e w' => e = .returned (.int .i64 1000) ∧ Below w.heap.size w w' from fun w => refUnitSize_any 3 (by omega) w)
          have NM := Lib.hid (show ∀ w, Calls Tryd.prog 26 #[.int .i64 3] w fun e w' => e = .returned (.string ⟨#[115]⟩) ∧ Below w.heap.size w w' from fun w => refUnitName_any 3 (by omega) w)
          have e1 : (en : Int) + 1 ≤ (s.size : Int) := by have := HL.out; omega
          rw [show (((3 : Nat) : Int)) = 3 from rfl] at U c3i u0
          have BL := Lib.hid (show ∀ w, Calls Tryd.prog 24 #[.int .i64 3] w fun e w' => e = .returned (.int .i64 60) ∧ Below w.heap.size w w' from fun w => refBelow_any 3 (by omega) w)
          obtain ⟨ki, hki⟩ : ∃ ki : Int, ki = (k : Int) - 1 := ⟨_, rfl⟩
          rw [← hki] at c3i ⊢
          clear hki k0 u0
          have HNI := Lib.hid (And.intro hni hsi)
          clear c1 c2 c3 c4 hcc hale hni hsi n0 s0 
          go_wp2_with fail
          go_fit (N.out _)
          rintro e w1 ⟨rfl, rfl⟩
          go_wp2_with fail
          go_fit (U.out _)
          rintro e w2 ⟨rfl, hb2⟩
          have B2 := Lib.hid (HB.out.trans (hb2.mono HB.out.size))
          clear hb2
          go_wp2_with fail
          go_fit (BL.out _)
          rintro e w3 ⟨rfl, hb3⟩
          have B3 := Lib.hid (B2.out.trans (hb3.mono B2.out.size))
          clear hb3
          go_wp2_with fail
          go_fit (SZ.out _)
          rintro e w4 ⟨rfl, hb4⟩
          have B4 := Lib.hid (B3.out.trans (hb4.mono B3.out.size))
          clear hb4
          go_wp2_with fail
          go_fit (NM.out _)
          rintro e w5 ⟨rfl, hb5⟩
          have B5 := Lib.hid (B4.out.trans (hb5.mono B4.out.size))
          clear hb5
          go_wp2_with fail
          go_roundw
          case rel => exact ⟨g, 3 + 1, _, en + 1, large, by omega, HG.out, HR.out, HL.out.1, HP.out, by rw [HNI.out.1, HNI.out.2, Int.natCast_add, Int.natCast_mul]; rfl, by go_num, by go_num, rfl, B5.out⟩
          case measure => have := HL.out; simp [RowKit.intOf]; omega
        · have HP := Lib.hid (show parseL 5 s.data.toList 0 0 false = parseL g (s.data.toList.drop (en + 2)) (sum + n * 1) (4 + 1) large by
            rw [HE.out, parse_step HS.out.2.2.2.1 (unitI_some HS.out.1) hcc, if_neg (by rw [HS.out.2.1]; omega), HS.out.2.2.2.2.2.2.1, HS.out.2.1, List.drop_drop]; rfl)
          have HR := Lib.hid (show sum + n * 1 ≤ roomK (4 + 1) from by
            have h := room_step (k := 4) (v := n) (sum := sum) (by omega) (Nat.le_trans HS.out.2.2.2.2.2.2.2.2 (room_mono2 k 4 (by omega) (by omega))) (by rw [Nat.min_eq_left (by omega)]; exact c4) (by rw [Nat.min_eq_left (by omega)]; omega)
            rw [Nat.min_eq_left (by omega)] at h
            exact h)
          have q1i : ¬ (1000 : Int) ≤ ni := by have : ¬ 1000 ≤ n := fun e => c4 ⟨by omega, e⟩; omega
          have HG := Lib.hid (show 5 ≤ g + (4 + 1) by omega)
          have HL := Lib.hid (show en + 2 ≤ s.size ∧ a < en + 2 from by
            have h := congrArg List.length (unit_of (unitI_some HS.out.1)).2
            rw [List.length_append, HS.out.2.2.1, show (nameU 4).length = 2 from rfl] at h
            have := HS.out.2.2.2.2.2.1
            omega)
          have SZ := Lib.hid (show ∀ w, Calls Tryd.prog 25 #[.int .i64 4] w fun e w' => e = .returned (.int .i64 1) ∧ Below w.heap.size w w' from fun w => refUnitSize_any 4 (by omega) w)
          have NM := Lib.hid (show ∀ w, Calls Tryd.prog 26 #[.int .i64 4] w fun e w' => e = .returned (.string ⟨#[109, 115]⟩) ∧ Below w.heap.size w w' from fun w => refUnitName_any 4 (by omega) w)
          have e1 : (en : Int) + 2 ≤ (s.size : Int) := by have := HL.out; omega
          rw [show (((4 : Nat) : Int)) = 4 from rfl] at U c3i u0
          have BL := Lib.hid (show ∀ w, Calls Tryd.prog 24 #[.int .i64 4] w fun e w' => e = .returned (.int .i64 1000) ∧ Below w.heap.size w w' from fun w => refBelow_any 4 (by omega) w)
          obtain ⟨ki, hki⟩ : ∃ ki : Int, ki = (k : Int) - 1 := ⟨_, rfl⟩
          rw [← hki] at c3i ⊢
          clear hki k0 u0
          have HNI := Lib.hid (And.intro hni hsi)
          clear c1 c2 c3 c4 hcc hale hni hsi n0 s0 
          go_wp2_with fail
          go_fit (N.out _)
          rintro e w1 ⟨rfl, rfl⟩
          go_wp2_with fail
          go_fit (U.out _)
          rintro e w2 ⟨rfl, hb2⟩
          have B2 := Lib.hid (HB.out.trans (hb2.mono HB.out.size))
          clear hb2
          go_wp2_with fail
          go_fit (BL.out _)
          rintro e w3 ⟨rfl, hb3⟩
          have B3 := Lib.hid (B2.out.trans (hb3.mono B2.out.size))
          clear hb3
          go_wp2_with fail
          go_fit (SZ.out _)
          rintro e w4 ⟨rfl, hb4⟩
          have B4 := Lib.hid (B3.out.trans (hb4.mono B3.out.size))
          clear hb4
          go_wp2_with fail
          go_fit (NM.out _)
          rintro e w5 ⟨rfl, hb5⟩
          have B5 := Lib.hid (B4.out.trans (hb5.mono B4.out.size))
          clear hb5
          go_wp2_with fail
          go_roundw
          case rel => exact ⟨g, 4 + 1, _, en + 2, large, by omega, HG.out, HR.out, HL.out.1, HP.out, by rw [HNI.out.1, HNI.out.2, Int.natCast_add, Int.natCast_mul]; first | rfl | simp, by go_num, by go_num, rfl, B5.out⟩
          case measure => have := HL.out; simp [RowKit.intOf]; omega
    · obtain rfl : a = s.size := by omega
      have hfin : parseL 5 s.data.toList 0 0 false = some (sum, large) := by
        rw [HE.out, List.drop_eq_nil_of_le (by rw [hsl]; exact Nat.le_refl _)]
        cases f <;> simp [parseL]
      have s0 : (0 : Int) ≤ sum ∧ (sum : Int) ≤ 2251799813685248000 := by omega
      have HQ := Lib.hid (HF.out.2 _ _ hfin)
      clear hfin hroom hsum
      cases large
      · by_cases q : MT < sum
        · have HN := Lib.hid (show docP s.data.toList = (0, 2) by rw [HQ.out, if_pos (.inr q)])
          have q1 : (1125899906842624 : Int) < sum := by unfold MT at q; omega
          clear q
          go_wp2_with fail
          go_ret2
          exact ⟨by rw [HN.out]; rfl, HB.out⟩
        · have HN := Lib.hid (show docP s.data.toList = (sum, 0) by rw [HQ.out, if_neg (by simpa using q)])
          have q1 : ¬ (1125899906842624 : Int) < sum := by unfold MT at q; omega
          clear q
          go_wp2_with fail
          go_ret2
          exact ⟨by rw [HN.out]; rfl, HB.out⟩
      · have HN := Lib.hid (show docP s.data.toList = (0, 2) by rw [HQ.out, if_pos (.inl rfl)])
        go_wp2_with fail
        go_ret2
        exact ⟨by rw [HN.out]; rfl, HB.out⟩
end Go.Proofs.YtaalfnfikjmomaaDoor
