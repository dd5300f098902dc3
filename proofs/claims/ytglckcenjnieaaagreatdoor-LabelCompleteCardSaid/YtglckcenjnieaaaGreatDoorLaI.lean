/- The contracts of spans.of, and of permittedBy (label). -/
import Derived.Test.YtglckcenjnieaaaGreatDoorLaH
import Derived.Test.YtglckcenjnieaaaGreatDoorBaseS
import Derived.Deep.RegionWith
namespace Go.Proofs.YtglckcenjnieaaaGreatDoor
open Go.RowKit Go.Lib Go.Maps

def ofF (F : List UInt8 → Option (Int × Int)) (l : List UInt8) : Int × Int := (F l).getD (-2, 9007199254740992)
set_option maxHeartbeats 1000000 in
theorem of_any (K n : Nat) (F : List UInt8 → Option (Int × Int)) (l : List UInt8) (hl : l.length ≤ 1048576) (w : World) (h : SpM w K n F) :
    Calls Tryz.prog 37 #[.map (some K), .string ⟨l.toArray⟩] w fun e w' => e = .returned (.agg #[.int .i64 (ofF F l).1, .int .i64 (ofF F l).2]) ∧ Below w.heap.size w w' := by
  obtain ⟨a, b, hrun, hp⟩ := (h.kept ((Below.refl w.heap.size w).alloc (Nat.le_refl _) (.cells #[.int .i64 0, .int .i64 0] 40))).get l (by omega)
  cases hF : F l with
  | none =>
    rw [hF] at hrun
    have hE := Lib.hid (show ofF F l = (-2, 9007199254740992) by unfold ofF; rw [hF]; rfl)
    clear hp hF h
    go_enter Tryz.func37, Tryz.ntmps37
    go_wp2_with fail
    refine bodyPost_ret (v := .agg #[.int .i64 (ofF F l).1, .int .i64 (ofF F l).2]) ?_ rfl ⟨rfl, ?_⟩
    · rw [results_cellL rfl, hE.out]
      go_simp
    · exact ((Below.refl _ _).alloc (Nat.le_refl _) _).alloc (by simp) _
  | some p =>
    rw [hF] at hrun
    obtain rfl := hp p hF
    have hE := Lib.hid (show ofF F l = (a, b) by unfold ofF; rw [hF]; rfl)
    clear hp hF h
    go_enter Tryz.func37, Tryz.ntmps37
    go_wp2_with fail
    refine bodyPost_ret (v := .agg #[.int .i64 (ofF F l).1, .int .i64 (ofF F l).2]) ?_ rfl ⟨rfl, ?_⟩
    · rw [results_cellL rfl, hE.out]
      go_simp
    · exact ((Below.refl _ _).alloc (Nat.le_refl _) _).alloc (by simp) _

theorem need_len {x a : List UInt8} {lo hi : Int} (h : needP x = some (a, lo, hi)) : a.length ≤ x.length := by
  have num : ∀ (p q : List UInt8) (l g : Bool), p.length ≤ x.length → numF p q l g = some (a, lo, hi) → a.length ≤ x.length := by
    intro p q l g hp hq
    unfold numF at hq
    split at hq
    · split at hq
      · obtain ⟨rfl, _⟩ := Prod.mk.inj (Option.some.inj hq)
        exact hp
      · cases hq
    · cases hq
  unfold needP at h
  split at h
  · split at h
    · obtain ⟨rfl, _⟩ := Prod.mk.inj (Option.some.inj h)
      rw [List.length_drop]
      omega
    · cases h
  · unfold needC at h
    split at h
    · exact num _ _ _ _ (cut_len _ _).1 h
    split at h
    · exact num _ _ _ _ (cut_len _ _).1 h
    split at h
    · exact num _ _ _ _ (cut_len _ _).1 h
    split at h
    · obtain ⟨rfl, _⟩ := Prod.mk.inj (Option.some.inj h)
      exact Nat.le_refl _
    · cases h
theorem two_store {w : World} {b : Nat} {t : TypeId} {x y : Value} (h : TwoL w b t x y) (x' y' : Value) : TwoL ((w.setCell ⟨b, 0, none⟩ x').setCell ⟨b, 1, none⟩ y') b t x' y' := by
  have h := h.blk
  constructor
  simp [World.setCell, Array.getElem?_modify, h]
/-- What a requirement permits besides, if anything is left. -/
def permS (F : List UInt8 → Option (Int × Int)) (x : List UInt8) : Option (List UInt8 → Option (Int × Int)) :=
  match needP x with
  | none => none
  | some (nm, lo, hi) => if min hi (ofF F nm).2 < max lo (ofF F nm).1 then none else some (updF F nm (max lo (ofF F nm).1, min hi (ofF F nm).2))
def permL : List (List UInt8) → (List UInt8 → Option (Int × Int)) → Option (List UInt8 → Option (Int × Int))
  | [], F => some F
  | x :: r, F => match permS F x with
    | none => none
    | some G => permL r G
theorem permL_cons (x : List UInt8) (r : List (List UInt8)) (F : List UInt8 → Option (Int × Int)) : permL (x :: r) F = match permS F x with
    | none => none
    | some G => permL r G := rfl
def PermPost (L : List (List UInt8)) (w : World) (e : Ending) (w' : World) : Prop :=
  Below w.heap.size w w' ∧ ((permL L (fun _ => none) = none ∧ e = .returned (.tuple #[.map none, .bool false])) ∨
    ∃ (K : Nat) (F : List UInt8 → Option (Int × Int)), permL L (fun _ => none) = some F ∧ w.heap.size ≤ K ∧ SpM w' K L.length F ∧ e = .returned (.tuple #[.map (some K), .bool true]))
set_option maxHeartbeats 2000000 in
theorem permittedBy_any (v : Option Addr) (cap : Nat) (L : List (List UInt8)) (hlen : L.length ≤ 1000) (hx : ∀ x ∈ L, x.length ≤ 1048576) (w : World) (hT : TabK w) (hr : ReadsStr w v L) :
    Calls Tryz.prog 34 #[.slice v L.length cap] w (PermPost L w) := by
  have HT := Lib.hid hT
  have HR := Lib.hid hr
  have HX := Lib.hid hx
  clear hT hr hx
  have hmm := @run_makeMap Tryz.prog
  go_enter Tryz.func34, Tryz.ntmps34
  go_wp2_with fail
  go_loopw [14] (fun s14 wr => ∃ (j : Nat) (F : List UInt8 → Option (Int × Int)), s14 = .int .i64 (j : Int) ∧ j ≤ L.length ∧ permL (L.drop j) F = permL L (fun _ => none) ∧ SpM wr w.heap.size j F ∧ Below w.heap.size w wr) (fun s14 _ => L.length - (RowKit.intOf s14).toNat)
  case atStart => exact ⟨0, fun _ => none, rfl, Nat.zero_le _, by rw [List.drop_zero], SpM.new w, (Below.refl _ _).alloc (Nat.le_refl _) _⟩
  case round =>
    obtain ⟨j, F, rfl, hj, hp, hm, hbel⟩ := hrel
    have z1 := hbel.size
    have zk := hm.lt
    have HM := Lib.hid hm
    have BE := Lib.hid hbel
    have HP := Lib.hid hp
    clear hm hp
    by_cases hjl : j < L.length
    · obtain ⟨b, off, hv, hlt, hc⟩ := (HR.out.below hbel) j hjl
      subst hv
      have hji : (j : Int) < (L.length : Int) := by omega
      have hxl := HX.out _ (List.getElem_mem hjl)
      have HD := Lib.hid (show L.drop j = L[j] :: L.drop (j + 1) from List.drop_eq_getElem_cons hjl)
      obtain ⟨x, hxe⟩ : ∃ x, x = L[j] := ⟨_, rfl⟩
      rw [← hxe] at hc hxl HD
      have PN := Lib.hid (fun w hT => parseNeed_any ⟨x.toArray⟩ (by show x.toArray.size ≤ _; simpa using hxl) w hT)
      clear hxe hj hbel
      go_wp2_with fail
      go_fit (PN.out _ (HT.out.below BE.out))
      rintro e w2 ⟨nm, lo, hi, ok, rfl, hR, hb⟩
      rw [show (⟨x.toArray⟩ : ByteArray).data.toList = x by simp] at hR
      have hbel := BE.out.trans (hb.mono z1)
      have HM2 := Lib.hid (HM.out.kept hb)
      have BE2 := Lib.hid hbel
      have z2 := hbel.size
      have z3 := hb.size
      clear hb hbel hc
      cases hN : needP x with
      | none =>
        rw [hN] at hR
        obtain rfl : ok = false := hR
        have HN := Lib.hid hN
        clear hN
        go_wp2_with fail
        refine bodyPost_ret (v := .tuple #[.map none, .bool false]) (by simp [results, Tryz.results34, go_sem]) rfl ⟨BE2.out.alloc BE2.out.size _, Or.inl ⟨?_, rfl⟩⟩
        rw [← HP.out, HD.out, permL_cons]
        unfold permS
        rw [HN.out]
      | some q =>
        obtain ⟨a, lo', hi'⟩ := q
        rw [hN] at hR
        obtain ⟨rfl, rfl, rfl, rfl⟩ := hR
        have HN := Lib.hid hN
        have hal := need_len hN
        clear hN
        go_wp2_with fail
        have ta := TwoL.new w2 40 (.int .i64 lo) (.int .i64 hi)
        have ma := HM2.out.kept ((Below.refl w2.heap.size w2).alloc (Nat.le_refl _) (.cells #[.int .i64 lo, .int .i64 hi] 40))
        have ba := BE2.out.alloc BE2.out.size (.cells #[.int .i64 lo, .int .i64 hi] 40)
        obtain ⟨wA, hwA⟩ : ∃ wA, wA = w2.alloc (.cells #[.int .i64 lo, .int .i64 hi] 40) := ⟨_, rfl⟩
        rw [← hwA] at ta ma ba ⊢
        clear hwA
        obtain ⟨t0, t1, -⟩ := ta.facts
        have TA := Lib.hid ta
        have MA := Lib.hid ma
        have BA := Lib.hid ba
        have D1 := Lib.hid ((Below.refl wA.heap.size wA).drew)
        have D2 := Lib.hid ((Below.refl wA.heap.size wA).drew.alloc (Nat.le_refl _) (.cells #[.int .i64 0, .int .i64 0] 40))
        have OF := Lib.hid (fun (w' : World) (h : SpM w' w.heap.size j F) => of_any w.heap.size j F a (by omega) w' h)
        have zA := ta.lt
        have zB := ba.size
        clear ta ma ba
        obtain ⟨of, hof⟩ : ∃ of, of = ofF F a := ⟨_, rfl⟩
        rw [← hof] at OF
        obtain ⟨o1, o2⟩ := of
        have HOF := Lib.hid hof
        clear hof
        go_cut [10] (fun s10 wx => ∃ p : Nat, s10 = .pointer (some ⟨p, 0, none⟩) ∧ TwoL wx p 40 (.int .i64 (max lo o1)) (.int .i64 (min hi o2)) ∧ Below wA.heap.size wA wx)
        case first =>
          go_region_with (first
            | (go_at_call 37; go_fit (OF.out _ (MA.out.kept (by first | exact D1.out | exact D2.out))); rintro e w5 ⟨rfl, hb5⟩; have k5 : Below wA.heap.size wA w5 := (by first | exact D1.out.trans (hb5.mono D1.out.size) | exact D2.out.trans (hb5.mono D2.out.size)); obtain ⟨a0, a1, -⟩ := (TA.out.below k5).facts; have z6 := (TA.out.below k5).lt; (first | (have n5 : TwoL w5 wA.heap.size 40 (.int .i64 0) (.int .i64 0) := (TwoL.new wA.drew _ _ _).below hb5; obtain ⟨y0, y1, y2, y3⟩ := n5.facts; have y4 := n5.lt) | skip); have z5 := k5.size; go_wp2_with fail)
            | (go_at_call 60; go_fit (and_any lo hi o1 o2 _); rintro e w6 ⟨rfl, hb6⟩; have k6 : Below wA.heap.size wA w6 := (by first | exact k5.trans (hb6.mono k5.size) | exact (k5.alloc k5.size _).trans (hb6.mono (by simp; omega))); (first | (have n6 : TwoL w6 wA.heap.size 40 (.int .i64 0) (.int .i64 0) := n5.below hb6; obtain ⟨x0, x1, x2, x3⟩ := n6.facts; have x4 := n6.lt) | (have n6 : TwoL w6 w5.heap.size 40 (.int .i64 0) (.int .i64 0) := (TwoL.new w5 _ _ _).below hb6; obtain ⟨x0, x1, x2, x3⟩ := n6.facts; have x4 := n6.lt) | skip); go_wp2_with fail))
          all_goals
            go_wp2_with fail
            refine Met.intro ?_
            go_step
            (repeat apply Exists.intro)
            refine ⟨?_, rfl⟩
            first
              | exact ⟨w6.heap.size, rfl, TwoL.new _ _ _ _, k6.alloc k6.size _⟩
              | exact ⟨wA.heap.size, rfl, two_store n6 _ _, (k6.setCell (Nat.le_refl _) _).setCell (Nat.le_refl _) _⟩
              | exact ⟨w5.heap.size, rfl, two_store n6 _ _, (k6.setCell z5 _).setCell z5 _⟩
        case rest =>
          obtain ⟨p, rfl, hq, hb⟩ := hcut
          have hm := MA.out.kept hb
          have hbe := BA.out.trans (hb.mono zB)
          obtain ⟨u0, u1, -⟩ := hq.facts
          have HQ := Lib.hid hq
          have HM3 := Lib.hid hm
          have BE3 := Lib.hid hbe
          clear hb hm hbe hq t0 t1
          have EM := Lib.hid (fun w => empty_any (max lo o1) (min hi o2) w)
          have HS := Lib.hid (show permS F x = if min hi o2 < max lo o1 then none else some (updF F a (max lo o1, min hi o2)) by unfold permS; rw [HN.out]; dsimp only; rw [← HOF.out])
          generalize max lo o1 = c1 at *
          generalize min hi o2 = c2 at *
          by_cases hc : c2 < c1
          · rw [decide_eq_true hc] at EM
            have HS2 := Lib.hid (HS.out.trans (if_pos hc))
            clear HS hc
            go_wp2_with fail
            go_fit (EM.out _)
            rintro e w7 ⟨rfl, hb⟩
            have BE4 := Lib.hid (BE3.out.trans (hb.mono BE3.out.size))
            clear hb
            go_wp2_with fail
            refine bodyPost_ret (v := .tuple #[.map none, .bool false]) (by simp [results, Tryz.results34, go_sem]) rfl ⟨BE4.out, Or.inl ⟨?_, rfl⟩⟩
            rw [← HP.out, HD.out, permL_cons, HS2.out]
          · rw [decide_eq_false hc] at EM
            have HS2 := Lib.hid (HS.out.trans (if_neg hc))
            clear HS hc
            go_wp2_with fail
            go_fit (EM.out _)
            rintro e w7 ⟨rfl, hb⟩
            have BE4 := Lib.hid (BE3.out.trans (hb.mono BE3.out.size))
            have hm := HM3.out.kept hb
            clear u0 u1
            obtain ⟨u0, u1, -⟩ := (HQ.out.below hb).facts
            obtain ⟨w8, hrun, hm8, hg8⟩ := hm.put (by omega) a (by omega) c1 c2
            have HM8 := Lib.hid hm8
            have BE8 := Lib.hid (BE4.out.trans (⟨hg8.os, hg8.tape, hg8.output, hg8.size, fun k hk => hg8.block k (Nat.lt_of_lt_of_le hk BE4.out.size) (fun e => by injection e with e; omega)⟩ : Below w.heap.size w7 w8))
            clear hb hm hm8 hg8
            go_wp2_with fail
            go_roundw
            case rel => exact ⟨j + 1, updF F a (c1, c2), by go_num, by omega, by rw [← HP.out, HD.out, permL_cons, HS2.out], HM8.out, BE8.out⟩
            case measure => simp [RowKit.intOf]; omega
    · obtain rfl : j = L.length := by omega
      have HE := Lib.hid (show permL L (fun _ => none) = some F by rw [← HP.out, List.drop_eq_nil_of_le (Nat.le_refl _)]; rfl)
      clear hj hbel
      go_wp2_with fail
      refine bodyPost_ret (v := .tuple #[.map (some w.heap.size), .bool true]) (by simp [results, Tryz.results34, go_sem]) rfl ⟨BE.out, Or.inr ⟨w.heap.size, F, HE.out, Nat.le_refl _, HM.out, rfl⟩⟩
end Go.Proofs.YtglckcenjnieaaaGreatDoor
