/- The contracts of the document's matches, One and Satisfies (label). -/
import Derived.Test.YtglckcenjnieaaaGreatDoorLdG
namespace Go.Proofs.YtglckcenjnieaaaGreatDoor
open Go.RowKit Go.Lib

set_option maxHeartbeats 4000000 in
theorem match_any (f n g m : Int) (A B : ByteArray) (w : World) :
    Calls Tryz.prog 59 #[.agg #[.int .i64 f, .string A, .int .i64 n], .agg #[.int .i64 g, .string B, .int .i64 m]] w fun e w' => e = .returned (.bool (matchD (f, A.data.toList, n) (g, B.data.toList, m))) ∧ Below w.heap.size w w' := by
  by_cases h0 : f = 0
  · subst h0
    have HV := Lib.hid (show matchD (0, A.data.toList, n) (g, B.data.toList, m) = false by unfold matchD; simp)
    go_enter Tryz.func59, Tryz.ntmps59
    go_wp2_with fail
    go_ret
    exact ⟨ret_bool (by rw [HV.out]), ((Below.refl _ _).alloc (Nat.le_refl _) _).alloc (by simp) _⟩
  have u0 : (f == 0) = false := by rw [beq_eq_false_iff_ne]; exact h0
  by_cases hAB : A.data.toList = B.data.toList
  · have uq : (A.toList != B.toList) = false := by rw [Lib.toList_data, Lib.toList_data, hAB]; simp
    have uq2 : (A.toList == B.toList) = true := by rw [Lib.toList_data, Lib.toList_data, hAB]; simp
    by_cases g1 : g = 1
    · subst g1
      have HV := Lib.hid (show matchD (f, A.data.toList, n) (1, B.data.toList, m) = true by unfold matchD; simp [h0, hAB])
      clear h0 hAB
      go_enter Tryz.func59, Tryz.ntmps59
      go_wp2_with fail
      go_ret
      exact ⟨ret_bool (by rw [HV.out]), ((Below.refl _ _).alloc (Nat.le_refl _) _).alloc (by simp) _⟩
    by_cases g2 : g = 2
    · subst g2
      have HV := Lib.hid (show matchD (f, A.data.toList, n) (2, B.data.toList, m) = true by unfold matchD; simp [h0, hAB])
      clear h0 hAB
      go_enter Tryz.func59, Tryz.ntmps59
      go_wp2_with fail
      go_ret
      exact ⟨ret_bool (by rw [HV.out]), ((Below.refl _ _).alloc (Nat.le_refl _) _).alloc (by simp) _⟩
    by_cases g3 : g = 3
    · subst g3
      by_cases h5 : f = 5
      · subst h5
        by_cases hc : m ≤ n
        · have HV := Lib.hid (show matchD (5, A.data.toList, n) (3, B.data.toList, m) = true by unfold matchD; simp [hAB, hc])
          clear h0 hAB
          go_enter Tryz.func59, Tryz.ntmps59
          go_wp2_with fail
          go_ret
          exact ⟨ret_bool (by rw [HV.out]), ((Below.refl _ _).alloc (Nat.le_refl _) _).alloc (by simp) _⟩
        · have HV := Lib.hid (show matchD (5, A.data.toList, n) (3, B.data.toList, m) = false by unfold matchD; simp [hAB, hc])
          clear h0 hAB
          go_enter Tryz.func59, Tryz.ntmps59
          go_wp2_with fail
          go_ret
          exact ⟨ret_bool (by rw [HV.out]), ((Below.refl _ _).alloc (Nat.le_refl _) _).alloc (by simp) _⟩
      · have HV := Lib.hid (show matchD (f, A.data.toList, n) (3, B.data.toList, m) = false by unfold matchD; simp [hAB, h5])
        have u5 : (f == 5) = false := by rw [beq_eq_false_iff_ne]; exact h5
        clear h0 hAB
        go_enter Tryz.func59, Tryz.ntmps59
        go_wp2_with fail
        go_ret
        exact ⟨ret_bool (by rw [HV.out]), ((Below.refl _ _).alloc (Nat.le_refl _) _).alloc (by simp) _⟩
    by_cases g4 : g = 4
    · subst g4
      by_cases h5 : f = 5
      · subst h5
        by_cases hc : n ≤ m
        · have HV := Lib.hid (show matchD (5, A.data.toList, n) (4, B.data.toList, m) = true by unfold matchD; simp [hAB, hc])
          clear h0 hAB
          go_enter Tryz.func59, Tryz.ntmps59
          go_wp2_with fail
          go_ret
          exact ⟨ret_bool (by rw [HV.out]), ((Below.refl _ _).alloc (Nat.le_refl _) _).alloc (by simp) _⟩
        · have HV := Lib.hid (show matchD (5, A.data.toList, n) (4, B.data.toList, m) = false by unfold matchD; simp [hAB, hc])
          clear h0 hAB
          go_enter Tryz.func59, Tryz.ntmps59
          go_wp2_with fail
          go_ret
          exact ⟨ret_bool (by rw [HV.out]), ((Below.refl _ _).alloc (Nat.le_refl _) _).alloc (by simp) _⟩
      · have HV := Lib.hid (show matchD (f, A.data.toList, n) (4, B.data.toList, m) = false by unfold matchD; simp [hAB, h5])
        have u5 : (f == 5) = false := by rw [beq_eq_false_iff_ne]; exact h5
        clear h0 hAB
        go_enter Tryz.func59, Tryz.ntmps59
        go_wp2_with fail
        go_ret
        exact ⟨ret_bool (by rw [HV.out]), ((Below.refl _ _).alloc (Nat.le_refl _) _).alloc (by simp) _⟩
    have v1 : (g == 1) = false := by rw [beq_eq_false_iff_ne]; exact g1
    have v2 : (g == 2) = false := by rw [beq_eq_false_iff_ne]; exact g2
    have v3 : (g == 3) = false := by rw [beq_eq_false_iff_ne]; exact g3
    have v4 : (g == 4) = false := by rw [beq_eq_false_iff_ne]; exact g4
    by_cases h5 : f = 5
    · subst h5
      by_cases hc : n = m
      · have HV := Lib.hid (show matchD (5, A.data.toList, n) (g, B.data.toList, m) = true by unfold matchD; simp [hAB, hc, g1, g2, g3, g4])
        have v5 : (n == m) = true := by simpa using hc
        clear h0 hAB
        go_enter Tryz.func59, Tryz.ntmps59
        go_wp2_with fail
        go_ret
        exact ⟨ret_bool (by rw [HV.out]), ((Below.refl _ _).alloc (Nat.le_refl _) _).alloc (by simp) _⟩
      · have HV := Lib.hid (show matchD (5, A.data.toList, n) (g, B.data.toList, m) = false by unfold matchD; simp [hAB, hc, g1, g2, g3, g4])
        have v5 : (n == m) = false := by rw [beq_eq_false_iff_ne]; exact hc
        clear h0 hAB
        go_enter Tryz.func59, Tryz.ntmps59
        go_wp2_with fail
        go_ret
        exact ⟨ret_bool (by rw [HV.out]), ((Below.refl _ _).alloc (Nat.le_refl _) _).alloc (by simp) _⟩
    · have HV := Lib.hid (show matchD (f, A.data.toList, n) (g, B.data.toList, m) = false by unfold matchD; simp [hAB, h5, g1, g2, g3, g4])
      have u5 : (f == 5) = false := by rw [beq_eq_false_iff_ne]; exact h5
      clear h0 hAB
      go_enter Tryz.func59, Tryz.ntmps59
      go_wp2_with fail
      go_ret
      exact ⟨ret_bool (by rw [HV.out]), ((Below.refl _ _).alloc (Nat.le_refl _) _).alloc (by simp) _⟩
  · have uq : (A.toList != B.toList) = true := by rw [Lib.toList_data, Lib.toList_data]; simpa using hAB
    have uq2 : (A.toList == B.toList) = false := by rw [Lib.toList_data, Lib.toList_data]; simpa using hAB
    have HV := Lib.hid (show matchD (f, A.data.toList, n) (g, B.data.toList, m) = false by unfold matchD; simp [hAB])
    clear h0 hAB
    go_enter Tryz.func59, Tryz.ntmps59
    go_wp2_with fail
    go_ret
    exact ⟨ret_bool (by rw [HV.out]), ((Below.refl _ _).alloc (Nat.le_refl _) _).alloc (by simp) _⟩

/-- What One's loop carries: a string of the list, the requirement's three cells. -/
structure OneH (w w1 : World) (b o : Nat) (s : ByteArray) (p : Nat) (f : Int) (a : ByteArray) (n : Int) : Prop where
  str : w1.cell? ⟨b, o, none⟩ = some (.string s)
  lb : b < w1.heap.size
  thr : ThrL w1 p 36 (.int .i64 f) (.string a) (.int .i64 n)
  bel : Below w.heap.size w w1
theorem OneH.below {w w1 w2 : World} {b o : Nat} {s : ByteArray} {p : Nat} {f : Int} {a : ByteArray} {n : Int} (h : OneH w w1 b o s p f a n) (hb : Below w1.heap.size w1 w2) : OneH w w2 b o s p f a n :=
  ⟨(hb.cell (p := ⟨b, o, none⟩) h.lb).trans h.str, Nat.lt_of_lt_of_le h.lb hb.size, h.thr.below hb, h.bel.trans (hb.mono h.bel.size)⟩
def OneS (w w1 : World) (b o : Nat) (s : ByteArray) (p : Nat) (f : Int) (a : ByteArray) (n : Int) : Prop :=
  w1.cell? ⟨b, o, none⟩ = some (.string s) ∧ w1.cell? ⟨p, 0, none⟩ = some (.int .i64 f) ∧ w1.cell? ⟨p, 1, none⟩ = some (.string a) ∧ w1.cell? ⟨p, 2, none⟩ = some (.int .i64 n) ∧ OneH w w1 b o s p f a n
theorem OneH.s {w w1 : World} {b o : Nat} {s : ByteArray} {p : Nat} {f : Int} {a : ByteArray} {n : Int} (h : OneH w w1 b o s p f a n) :
    w1.cell? ⟨b, o, none⟩ = some (.string s) ∧ w1.cell? ⟨p, 0, none⟩ = some (.int .i64 f) ∧ w1.cell? ⟨p, 1, none⟩ = some (.string a) ∧ w1.cell? ⟨p, 2, none⟩ = some (.int .i64 n) ∧ OneH w w1 b o s p f a n :=
  ⟨h.str, h.thr.facts.1, h.thr.facts.2.1, h.thr.facts.2.2, h⟩
theorem OneH.t {w w1 w2 : World} {b o : Nat} {s : ByteArray} {p : Nat} {f : Int} {a : ByteArray} {n : Int} (h : w1.cell? ⟨b, o, none⟩ = some (.string s) ∧ w1.cell? ⟨p, 0, none⟩ = some (.int .i64 f) ∧ w1.cell? ⟨p, 1, none⟩ = some (.string a) ∧ w1.cell? ⟨p, 2, none⟩ = some (.int .i64 n) ∧ OneH w w1 b o s p f a n) (hb : Below w1.heap.size w1 w2) :
    w2.cell? ⟨b, o, none⟩ = some (.string s) ∧ w2.cell? ⟨p, 0, none⟩ = some (.int .i64 f) ∧ w2.cell? ⟨p, 1, none⟩ = some (.string a) ∧ w2.cell? ⟨p, 2, none⟩ = some (.int .i64 n) ∧ OneH w w2 b o s p f a n := (h.2.2.2.2.below hb).s
theorem OneH.h {w w1 : World} {b o : Nat} {s : ByteArray} {p : Nat} {f : Int} {a : ByteArray} {n : Int} (h : w1.cell? ⟨b, o, none⟩ = some (.string s) ∧ w1.cell? ⟨p, 0, none⟩ = some (.int .i64 f) ∧ w1.cell? ⟨p, 1, none⟩ = some (.string a) ∧ w1.cell? ⟨p, 2, none⟩ = some (.int .i64 n) ∧ OneH w w1 b o s p f a n) : OneH w w1 b o s p f a n := h.2.2.2.2
set_option maxHeartbeats 4000000 in
set_option maxRecDepth 100000 in
theorem one_any (v : Option Addr) (cap : Nat) (L : List (List UInt8)) (sy : ByteArray) (hsy : sy.size ≤ 1000000) (hlen : L.length ≤ 1000000) (hx : ∀ x ∈ L, x.length ≤ 1000000) (w : World) (hr : ReadsStr w v L) :
    Calls Tryz.prog 33 #[.slice v L.length cap, .string sy] w fun e w' => e = .returned (.bool (oneD L (readD sy.data.toList))) ∧ Below w.heap.size w w' := by
  have HR := Lib.hid hr
  have HX := Lib.hid hx
  clear hr hx
  obtain ⟨⟨f, a, n⟩, hd⟩ : ∃ d, d = readD sy.data.toList := ⟨_, rfl⟩
  obtain ⟨sa, hsa⟩ : ∃ s : ByteArray, s = ⟨a.toArray⟩ := ⟨_, rfl⟩
  have R := fun w => read_any sy (by omega) w
  rw [← hd] at R
  dsimp only [ofD] at R
  rw [← hsa] at R
  have R := Lib.hid R
  have hsd : sa.data.toList = a := by rw [hsa]
  have HO := Lib.hid (show oneD L (readD sy.data.toList) = (decide (f ≠ 0) && ((L.any fun y => matchD (labelD y) (f, a, n)) != decide (f = 2))) by rw [← hd]; rfl)
  rw [← hsd] at HO
  obtain ⟨M, hM⟩ : ∃ M : List UInt8 → Bool, M = fun y => matchD (labelD y) (f, sa.data.toList, n) := ⟨_, rfl⟩
  rw [← hM] at HO
  have HM := Lib.hid (fun y => show M y = matchD (labelD y) (f, sa.data.toList, n) by rw [hM])
  obtain ⟨E, hE⟩ : ∃ E, E = oneD L (readD sy.data.toList) := ⟨_, rfl⟩
  rw [← hE] at HO ⊢
  clear hd hsa hsd hM hE
  go_enter Tryz.func33, Tryz.ntmps33
  go_wp2_with fail
  go_fit (R.out _)
  rintro e w1 ⟨rfl, hb⟩
  have T0 := Lib.hid (ThrL.new w1 36 (.int .i64 f) (.string sa) (.int .i64 n))
  have B1 := Lib.hid (hb.alloc hb.size (.cells #[.int .i64 f, .string sa, .int .i64 n] 36))
  have z1 := hb.size
  clear hb
  go_wp2_with fail
  go_loopw [6, 7] (fun s6 s7 wr => ∃ j : Nat, j ≤ L.length ∧ s7 = .int .i64 (j : Int) ∧ s6 = .bool ((L.take j).any M) ∧ Hid (ThrL wr w1.heap.size 36 (.int .i64 f) (.string sa) (.int .i64 n)) ∧ Hid (Below w.heap.size w wr)) (fun _ s7 _ => L.length - (RowKit.intOf s7).toNat)
  case atStart => exact ⟨0, by omega, rfl, rfl, T0, B1⟩
  case round =>
    obtain ⟨j, hj, rfl, rfl, HT, HB⟩ := hrel
    have z2 := HT.out.lt
    by_cases hlt : j < L.length
    · obtain ⟨b, off, rfl, hbl, hc⟩ := HR.out j hlt
      have hxl := HX.out _ (List.getElem_mem hlt)
      obtain ⟨x, hxe⟩ : ∃ x, x = L[j] := ⟨_, rfl⟩
      have HS := Lib.hid (show (L.take (j + 1)).any M = ((L.take j).any M || M x) by rw [List.take_succ_eq_append_getElem hlt, List.any_append, hxe]; simp)
      obtain ⟨sx, hsx⟩ : ∃ s : ByteArray, s = ⟨x.toArray⟩ := ⟨_, rfl⟩
      rw [← hxe] at hc hxl
      rw [← hsx] at hc
      have hjj : (j : Int) < (L.length : Int) := by omega
      have hj0' : (0 : Int) ≤ (j : Int) := by omega
      cases hq : (L.take j).any M
      · obtain ⟨⟨g, c, m⟩, hd⟩ : ∃ d, d = labelD x := ⟨_, rfl⟩
        obtain ⟨sc, hsc⟩ : ∃ s : ByteArray, s = ⟨c.toArray⟩ := ⟨_, rfl⟩
        have LB := fun w => label_any sx (by rw [hsx]; show x.toArray.size ≤ _; simp; omega) w
        rw [show sx.data.toList = x by rw [hsx], ← hd] at LB
        dsimp only [ofD] at LB
        rw [← hsc] at LB
        have LB := Lib.hid LB
        have MT := fun w => match_any g m f n sc sa w
        have hr := HM.out x
        rw [← hd, show c = sc.data.toList by rw [hsc]] at hr
        rw [← hr] at MT
        have MT := Lib.hid MT
        have HN := Lib.hid (show (L.take (j + 1)).any M = M x by rw [HS.out, hq]; rfl)
        have hsO : OneH w wr b (off + j) sx w1.heap.size f sa n := ⟨(HB.out.cell (p := ⟨b, off + j, none⟩) hbl).trans hc, Nat.lt_of_lt_of_le hbl HB.out.size, HT.out, HB.out⟩
        have hs1 := (hsO.below (Below.refl _ _).drew).s
        clear hc hd hsc hr hq hsO hxe hsx hxl
        generalize M x = r at *
        generalize w1.heap.size = p1 at *
        go_upto_region 6 with fail
        go_region_held3 (fun w' => w'.cell? ⟨b, off + j, none⟩ = some (.string sx) ∧ w'.cell? ⟨p1, 0, none⟩ = some (.int .i64 f) ∧ w'.cell? ⟨p1, 1, none⟩ = some (.string sa) ∧ w'.cell? ⟨p1, 2, none⟩ = some (.int .i64 n) ∧ OneH w w' b (off + j) sx p1 f sa n) (first | exact hs1 | assumption | exact OneH.t (by assumption) (by assumption)) (first | (go_at_call 24; go_fit (LB.out _); rintro e w5 ⟨rfl, hb5⟩) | (go_at_call 59; go_fit (MT.out _); rintro e w6 ⟨rfl, hb6⟩))
        all_goals
          go_wp2_with fail
          exact ⟨⟨j + 1, by omega, by go_num, by rw [HN.out], Lib.hid (OneH.h (w := w) (b := b) (o := off + j) (s := sx) (p := p1) (f := f) (a := sa) (n := n) (by assumption)).thr, Lib.hid (OneH.h (w := w) (b := b) (o := off + j) (s := sx) (p := p1) (f := f) (a := sa) (n := n) (by assumption)).bel⟩, by simp [RowKit.intOf]; omega⟩
      · have HN := Lib.hid (show (L.take (j + 1)).any M = true by rw [HS.out, hq]; rfl)
        clear hq hc hxe hsx
        go_upto_region 6 with fail
        go_quiet (fail)
        have BQ := Lib.hid (below_drewN HB.out nq)
        have TQ := Lib.hid (HT.out.below (below_drewN (Below.refl _ _) nq))
        go_wp2_with fail
        exact ⟨⟨j + 1, by omega, by go_num, by rw [HN.out], TQ, BQ⟩, by simp [RowKit.intOf]; omega⟩
    · obtain rfl : j = L.length := by omega
      rw [List.take_length]
      obtain ⟨t0, t1, t2⟩ := HT.out.facts
      have HO2 := Lib.hid HO.out
      generalize L.any M = R0 at HO2 ⊢
      clear HO HM
      by_cases f0 : f = 0
      · subst f0
        have HE := Lib.hid (show E = false by rw [HO2.out]; rfl)
        go_wp2_with fail
        go_ret
        exact ⟨by rw [HE.out]; rfl, HB.out⟩
      · have u0 : (f != 0) = true := by simpa using f0
        by_cases f2 : f = 2
        · subst f2
          cases R0
          · have HE := Lib.hid (show E = true by rw [HO2.out]; rfl)
            go_wp2_with fail
            go_ret
            exact ⟨by rw [HE.out]; rfl, HB.out⟩
          · have HE := Lib.hid (show E = false by rw [HO2.out]; rfl)
            go_wp2_with fail
            go_ret
            exact ⟨by rw [HE.out]; rfl, HB.out⟩
        · have u2 : (f == 2) = false := by rw [beq_eq_false_iff_ne]; exact f2
          cases R0
          · have HE := Lib.hid (show E = false by rw [HO2.out]; simp [f0, f2])
            clear f0 f2
            go_wp2_with fail
            go_ret
            exact ⟨by rw [HE.out]; rfl, HB.out⟩
          · have HE := Lib.hid (show E = true by rw [HO2.out]; simp [f0, f2])
            clear f0 f2
            go_wp2_with fail
            go_ret
            exact ⟨by rw [HE.out]; rfl, HB.out⟩
set_option maxHeartbeats 4000000 in
theorem rSatisfies_any (v v' : Option Addr) (cap cap' : Nat) (L M : List (List UInt8)) (hlen : L.length ≤ 1000000) (hx : ∀ x ∈ L, x.length ≤ 1000000) (hlen' : M.length ≤ 1000000) (hx' : ∀ x ∈ M, x.length ≤ 1000000) (w : World) (hr : ReadsStr w v L) (hr' : ReadsStr w v' M) :
    Calls Tryz.prog 17 #[.slice v L.length cap, .slice v' M.length cap'] w fun e w' => e = .returned (.bool (satD L M)) ∧ Below w.heap.size w w' := by
  have ON := Lib.hid (fun sy hsy w' (hb : Below w.heap.size w w') => one_any v cap L sy hsy hlen hx w' (hr.below hb))
  have HR := Lib.hid hr'
  have HX := Lib.hid hx'
  have HO := Lib.hid (show satD L M = M.all fun y => oneD L (readD y) from rfl)
  clear hr hx hr' hx'
  go_enter Tryz.func17, Tryz.ntmps17
  go_wp2_with fail
  go_loopw [5] (fun s5 wr => ∃ j : Nat, j ≤ M.length ∧ s5 = .int .i64 (j : Int) ∧ Hid ((M.drop j).all (fun y => oneD L (readD y)) = satD L M) ∧ Hid (Below w.heap.size w wr)) (fun s5 _ => M.length - (RowKit.intOf s5).toNat)
  case atStart => exact ⟨0, by omega, rfl, Lib.hid (by rw [List.drop_zero, HO.out]), Lib.hid (Below.refl _ _)⟩
  case round =>
    obtain ⟨j, hj, rfl, HA, HB⟩ := hrel
    by_cases hlt : j < M.length
    · obtain ⟨b, off, rfl, hbl, hc⟩ := (HR.out.below HB.out) j hlt
      have hxl := HX.out _ (List.getElem_mem hlt)
      have HD := Lib.hid (show (M.drop j).all (fun y => oneD L (readD y)) = (oneD L (readD M[j]) && (M.drop (j + 1)).all fun y => oneD L (readD y)) by rw [List.drop_eq_getElem_cons hlt, List.all_cons])
      obtain ⟨sx, hsx⟩ : ∃ s : ByteArray, s = ⟨M[j].toArray⟩ := ⟨_, rfl⟩
      rw [← hsx] at hc
      have ON1 := fun w' hb => ON.out sx (by rw [hsx]; show M[j].toArray.size ≤ _; simpa using hxl) w' hb
      rw [show sx.data.toList = M[j] by rw [hsx]] at ON1
      have ON1 := Lib.hid ON1
      clear hsx hxl
      generalize oneD L (readD M[j]) = r at *
      have hjj : (j : Int) < (M.length : Int) := by omega
      have hj0' : (0 : Int) ≤ (j : Int) := by omega
      cases r
      · have HN := Lib.hid (show satD L M = false by rw [← HA.out, HD.out]; rfl)
        go_wp2_with fail
        go_fit (ON1.out _ HB.out)
        rintro e w2 ⟨rfl, hb⟩
        have B2 := Lib.hid (HB.out.trans (hb.mono HB.out.size))
        clear hb
        go_wp2_with fail
        go_ret
        exact ⟨by rw [HN.out]; rfl, B2.out⟩
      · have HN := Lib.hid (show (M.drop (j + 1)).all (fun y => oneD L (readD y)) = satD L M by rw [← HA.out, HD.out, Bool.true_and])
        go_wp2_with fail
        go_fit (ON1.out _ HB.out)
        rintro e w2 ⟨rfl, hb⟩
        have B2 := Lib.hid (HB.out.trans (hb.mono HB.out.size))
        clear hb
        go_wp2_with fail
        exact ⟨⟨j + 1, by omega, by go_num, HN, B2⟩, by simp [RowKit.intOf]; omega⟩
    · obtain rfl : j = M.length := by omega
      have HN := Lib.hid (show satD L M = true by rw [← HA.out, List.drop_eq_nil_of_le (Nat.le_refl _)]; rfl)
      go_wp2_with fail
      go_ret
      exact ⟨by rw [HN.out]; rfl, HB.out⟩
end Go.Proofs.YtglckcenjnieaaaGreatDoor
