/- The contracts of examine, with the closure of Valid and with that of Need (label). -/
import Derived.Test.YtglckcenjnieaaaGreatDoorLaL
import Derived.Deep.QuietTactic
namespace Go.Proofs.YtglckcenjnieaaaGreatDoor
open Go.RowKit Go.Lib Go.Maps

/-- What examine answers, behind a string and those that were seen. -/
def exL (key : List UInt8 → Option (List UInt8)) : Option (List UInt8) → List (List UInt8) → List (List UInt8) → Int
  | _, _, [] => 0
  | prev, S, x :: r => match key x with
    | none => 5
    | some k => if k ∈ S then 7 else if (match prev with | none => false | some p => decide (0 ≤ cmpL p x)) = true then 22 else exL key (some x) (k :: S) r
theorem exL_cons (key : List UInt8 → Option (List UInt8)) (prev : Option (List UInt8)) (S : List (List UInt8)) (x : List UInt8) (r : List (List UInt8)) : exL key prev S (x :: r) = match key x with
    | none => 5
    | some k => if k ∈ S then 7 else if (match prev with | none => false | some p => decide (0 ≤ cmpL p x)) = true then 22 else exL key (some x) (k :: S) r := rfl
def exF (key : List UInt8 → Option (List UInt8)) (L : List (List UInt8)) : Int := if 32 < L.length then 3 else exL key none [] L
def prevL (L : List (List UInt8)) (j : Nat) : Option (List UInt8) := if j = 0 then none else L[j - 1]?

set_option maxHeartbeats 4000000 in
set_option maxRecDepth 100000 in
theorem examine_valid (v : Option Addr) (cap : Nat) (L : List (List UInt8)) (hlen : L.length ≤ 1000000) (hx : ∀ x ∈ L, x.length ≤ 1048576) (w : World) (hT : TabK w) (hr : ReadsStr w v L) :
    Calls Tryz.prog 21 #[.slice v L.length cap, .func (Fn.func 22) #[] #[]] w fun e w' => e = .returned (.int .i64 (exF labK L)) ∧ Below w.heap.size w w' := by
  by_cases hbig : 32 < L.length
  · have HE := Lib.hid (show exF labK L = 3 by unfold exF; rw [if_pos hbig])
    have hb2 : (32 : Int) < (L.length : Int) := by omega
    clear hbig hT hr hx
    go_enter Tryz.func21, Tryz.ntmps21
    go_wp2_with fail
    go_ret
    exact ⟨by rw [HE.out]; rfl, Below.refl _ _⟩
  have HT := Lib.hid hT
  have HR := Lib.hid hr
  have HX := Lib.hid hx
  have HE := Lib.hid (show exF labK L = exL labK none [] L by unfold exF; rw [if_neg hbig])
  have hb2 : ¬ (32 : Int) < (L.length : Int) := by omega
  have hmm := @run_makeMap Tryz.prog
  clear hT hr hx
  go_enter Tryz.func21, Tryz.ntmps21
  go_wp2_with fail
  go_loopw [16] (fun s14 wr => ∃ (j : Nat) (S : List (List UInt8)), s14 = .int .i64 (j : Int) ∧ j ≤ L.length ∧ exL labK (prevL L j) S (L.drop j) = exL labK none [] L ∧ BoM wr w.heap.size j S ∧ Below w.heap.size w wr) (fun s14 _ => L.length - (RowKit.intOf s14).toNat)
  case atStart => exact ⟨0, [], rfl, Nat.zero_le _, by rw [List.drop_zero]; rfl, BoM.new w, (Below.refl _ _).alloc (Nat.le_refl _) _⟩
  case round =>
    obtain ⟨j, S, rfl, hj, hp, hm, hbel⟩ := hrel
    have z1 := hbel.size
    have HM := Lib.hid hm
    have BE := Lib.hid hbel
    have HP := Lib.hid hp
    clear hm hp
    by_cases hjl : j < L.length
    · obtain ⟨b, off, hv, hlt, hc⟩ := (HR.out.below hbel) j hjl
      subst hv
      have hji : (j : Int) < (L.length : Int) := by omega
      have hxl := HX.out _ (List.getElem_mem hjl)
      have HD := Lib.hid (show L.drop j = L[j] :: L.drop (j + 1) from List.drop_eq_getElem_cons hjl)
      obtain ⟨x, hxe⟩ : ∃ x, x = L[j] := ⟨_, rfl⟩
      have HXE := Lib.hid hxe
      rw [← hxe] at hc hxl HD
      have PK := Lib.hid (fun w hT => validKey_any x hxl w hT)
      clear hxe hj hbel
      go_wp2_with fail
      go_fit (PK.out _ (HT.out.below BE.out))
      rintro e w2 ⟨y, ok, rfl, hR, hb⟩
      have hbel := BE.out.trans (hb.mono z1)
      have HM2 := Lib.hid (HM.out.kept hb)
      have BE2 := Lib.hid hbel
      have z2 := hbel.size
      cases hN : labK x with
      | none =>
        rw [hN] at hR
        obtain rfl : ok = false := hR
        have HN := Lib.hid (show exF labK L = 5 by rw [HE.out, ← HP.out, HD.out, exL_cons, hN])
        clear hN hb hbel hc
        go_wp2_with fail
        go_ret
        exact ⟨by rw [HN.out]; rfl, BE2.out⟩
      | some k =>
        rw [hN] at hR
        obtain ⟨rfl, rfl, hkl⟩ := hR
        have hget := HM2.out.get k (by omega)
        by_cases hS : k ∈ S
        · rw [decide_eq_true hS] at hget
          have HN := Lib.hid (show exF labK L = 7 by rw [HE.out, ← HP.out, HD.out, exL_cons, hN]; dsimp only; rw [if_pos hS])
          clear hN hb hbel hc hS
          go_wp2_with fail
          go_ret
          exact ⟨by rw [HN.out]; rfl, BE2.out⟩
        rw [decide_eq_false hS] at hget
        cases j with
        | zero =>
          obtain ⟨w8, hrun, hm8, hg8⟩ := HM2.out.put (by omega) k (by omega)
          have HM8 := Lib.hid hm8
          have BE8 := Lib.hid (BE2.out.trans (⟨hg8.os, hg8.tape, hg8.output, hg8.size, fun k hk => hg8.block k (Nat.lt_of_lt_of_le hk z2) (fun e => by injection e with e; omega)⟩ : Below w.heap.size w2 w8))
          have HN := Lib.hid (show exL labK (prevL L 1) (k :: S) (L.drop 1) = exL labK none [] L by
            have h := HP.out
            rw [HD.out, exL_cons, hN] at h
            dsimp only at h
            rw [if_neg hS] at h
            rw [← h]
            show exL labK (L[0]?) _ _ = _
            rw [List.getElem?_eq_getElem hjl, ← HXE.out]
            rfl)
          clear hN hb hbel hc hS hm8 hg8
          go_wp2_with fail
          go_roundw
          case rel => exact ⟨1, k :: S, rfl, by omega, HN.out, HM8.out, BE8.out⟩
          case measure => simp [RowKit.intOf]; omega
        | succ i =>
          obtain ⟨b', off', hv', hlt', hc'⟩ := (HR.out.below hbel) i (by omega)
          injection hv' with hv'
          injection hv' with hvb hvo
          subst hvb hvo
          have hil := HX.out _ (List.getElem_mem (show i < L.length by omega))
          obtain ⟨q, hqe⟩ : ∃ q, q = L[i]'(by omega) := ⟨_, rfl⟩
          have HQE := Lib.hid hqe
          rw [← hqe] at hc' hil
          have CM0 := fun w => idCompare_any ⟨q.toArray⟩ ⟨x.toArray⟩ (by show q.toArray.size ≤ _; simp; omega) (by show x.toArray.size ≤ _; simp; omega) w
          rw [show (⟨q.toArray⟩ : ByteArray).data.toList = q by simp, show (⟨x.toArray⟩ : ByteArray).data.toList = x by simp] at CM0
          have CM := Lib.hid CM0
          have hii : (i : Int) < (L.length : Int) := by omega
          have HPV := Lib.hid (show prevL L (i + 1) = some q by
            show L[i]? = _
            rw [List.getElem?_eq_getElem (by omega), HQE.out])
          by_cases hcm : 0 ≤ cmpL q x
          · have HN := Lib.hid (show exF labK L = 22 by
              rw [HE.out, ← HP.out, HD.out, exL_cons, hN]
              dsimp only
              rw [if_neg hS, HPV.out]
              exact if_pos (decide_eq_true hcm))
            clear hN hb hbel hc hS CM0 hqe
            generalize cmpL q x = cv at *
            go_wp2_with fail
            go_fit (CM.out _)
            rintro e w3 ⟨rfl, hb⟩
            have BE3 := Lib.hid (BE2.out.trans (hb.mono z2))
            clear hb
            go_wp2_with fail
            go_ret
            exact ⟨by rw [HN.out]; rfl, BE3.out⟩
          · have HN := Lib.hid (show exL labK (prevL L (i + 1 + 1)) (k :: S) (L.drop (i + 1 + 1)) = exL labK none [] L by
              have h := HP.out
              rw [HD.out, exL_cons, hN] at h
              dsimp only at h
              rw [if_neg hS, HPV.out] at h
              rw [if_neg (show ¬ (decide (0 ≤ cmpL q x) = true) by simpa using hcm)] at h
              rw [← h]
              show exL labK (L[i + 1]?) _ _ = _
              rw [List.getElem?_eq_getElem hjl, ← HXE.out])
            clear hN hb hbel hc hS CM0 hqe
            generalize cmpL q x = cv at *
            go_wp2_with fail
            go_fit (CM.out _)
            rintro e w3 ⟨rfl, hb⟩
            have BE3 := Lib.hid (BE2.out.trans (hb.mono z2))
            obtain ⟨w8, hrun, hm8, hg8⟩ := (HM2.out.kept hb).put (by omega) k (by omega)
            have HM8 := Lib.hid hm8
            have BE8 := Lib.hid (BE3.out.trans (⟨hg8.os, hg8.tape, hg8.output, hg8.size, fun k hk => hg8.block k (Nat.lt_of_lt_of_le hk BE3.out.size) (fun e => by injection e with e; omega)⟩ : Below w.heap.size w3 w8))
            clear hb hm8 hg8
            go_wp2_with fail
            go_roundw
            case rel => exact ⟨i + 1 + 1, k :: S, by go_num, by omega, HN.out, HM8.out, BE8.out⟩
            case measure => simp [RowKit.intOf]; omega
    · obtain rfl : j = L.length := by omega
      have HN := Lib.hid (show exF labK L = 0 by rw [HE.out, ← HP.out, List.drop_eq_nil_of_le (Nat.le_refl _)]; rfl)
      clear hj hbel
      go_wp2_with fail
      go_ret
      exact ⟨by rw [HN.out]; rfl, BE.out⟩

set_option maxHeartbeats 4000000 in
set_option maxRecDepth 100000 in
theorem examine_need (v : Option Addr) (cap : Nat) (L : List (List UInt8)) (hlen : L.length ≤ 1000000) (hx : ∀ x ∈ L, x.length ≤ 1048576) (w : World) (hT : TabK w) (hr : ReadsStr w v L) :
    Calls Tryz.prog 21 #[.slice v L.length cap, .func (Fn.func 26) #[] #[]] w fun e w' => e = .returned (.int .i64 (exF needK L)) ∧ Below w.heap.size w w' := by
  by_cases hbig : 32 < L.length
  · have HE := Lib.hid (show exF needK L = 3 by unfold exF; rw [if_pos hbig])
    have hb2 : (32 : Int) < (L.length : Int) := by omega
    clear hbig hT hr hx
    go_enter Tryz.func21, Tryz.ntmps21
    go_wp2_with fail
    go_ret
    exact ⟨by rw [HE.out]; rfl, Below.refl _ _⟩
  have HT := Lib.hid hT
  have HR := Lib.hid hr
  have HX := Lib.hid hx
  have HE := Lib.hid (show exF needK L = exL needK none [] L by unfold exF; rw [if_neg hbig])
  have hb2 : ¬ (32 : Int) < (L.length : Int) := by omega
  have hmm := @run_makeMap Tryz.prog
  clear hT hr hx
  go_enter Tryz.func21, Tryz.ntmps21
  go_wp2_with fail
  go_loopw [16] (fun s14 wr => ∃ (j : Nat) (S : List (List UInt8)), s14 = .int .i64 (j : Int) ∧ j ≤ L.length ∧ exL needK (prevL L j) S (L.drop j) = exL needK none [] L ∧ BoM wr w.heap.size j S ∧ Below w.heap.size w wr) (fun s14 _ => L.length - (RowKit.intOf s14).toNat)
  case atStart => exact ⟨0, [], rfl, Nat.zero_le _, by rw [List.drop_zero]; rfl, BoM.new w, (Below.refl _ _).alloc (Nat.le_refl _) _⟩
  case round =>
    obtain ⟨j, S, rfl, hj, hp, hm, hbel⟩ := hrel
    have z1 := hbel.size
    have HM := Lib.hid hm
    have BE := Lib.hid hbel
    have HP := Lib.hid hp
    clear hm hp
    by_cases hjl : j < L.length
    · obtain ⟨b, off, hv, hlt, hc⟩ := (HR.out.below hbel) j hjl
      subst hv
      have hji : (j : Int) < (L.length : Int) := by omega
      have hxl := HX.out _ (List.getElem_mem hjl)
      have HD := Lib.hid (show L.drop j = L[j] :: L.drop (j + 1) from List.drop_eq_getElem_cons hjl)
      obtain ⟨x, hxe⟩ : ∃ x, x = L[j] := ⟨_, rfl⟩
      have HXE := Lib.hid hxe
      rw [← hxe] at hc hxl HD
      have PK := Lib.hid (fun w hT => needKey_any x hxl w hT)
      clear hxe hj hbel
      go_wp2_with fail
      go_fit (PK.out _ (HT.out.below BE.out))
      rintro e w2 ⟨y, ok, rfl, hR, hb⟩
      have hbel := BE.out.trans (hb.mono z1)
      have HM2 := Lib.hid (HM.out.kept hb)
      have BE2 := Lib.hid hbel
      have z2 := hbel.size
      cases hN : needK x with
      | none =>
        rw [hN] at hR
        obtain rfl : ok = false := hR
        have HN := Lib.hid (show exF needK L = 5 by rw [HE.out, ← HP.out, HD.out, exL_cons, hN])
        clear hN hb hbel hc
        go_wp2_with fail
        go_ret
        exact ⟨by rw [HN.out]; rfl, BE2.out⟩
      | some k =>
        rw [hN] at hR
        obtain ⟨rfl, rfl, hkl⟩ := hR
        have hget := HM2.out.get k (by omega)
        by_cases hS : k ∈ S
        · rw [decide_eq_true hS] at hget
          have HN := Lib.hid (show exF needK L = 7 by rw [HE.out, ← HP.out, HD.out, exL_cons, hN]; dsimp only; rw [if_pos hS])
          clear hN hb hbel hc hS
          go_wp2_with fail
          go_ret
          exact ⟨by rw [HN.out]; rfl, BE2.out⟩
        rw [decide_eq_false hS] at hget
        cases j with
        | zero =>
          obtain ⟨w8, hrun, hm8, hg8⟩ := HM2.out.put (by omega) k (by omega)
          have HM8 := Lib.hid hm8
          have BE8 := Lib.hid (BE2.out.trans (⟨hg8.os, hg8.tape, hg8.output, hg8.size, fun k hk => hg8.block k (Nat.lt_of_lt_of_le hk z2) (fun e => by injection e with e; omega)⟩ : Below w.heap.size w2 w8))
          have HN := Lib.hid (show exL needK (prevL L 1) (k :: S) (L.drop 1) = exL needK none [] L by
            have h := HP.out
            rw [HD.out, exL_cons, hN] at h
            dsimp only at h
            rw [if_neg hS] at h
            rw [← h]
            show exL needK (L[0]?) _ _ = _
            rw [List.getElem?_eq_getElem hjl, ← HXE.out]
            rfl)
          clear hN hb hbel hc hS hm8 hg8
          go_wp2_with fail
          go_roundw
          case rel => exact ⟨1, k :: S, rfl, by omega, HN.out, HM8.out, BE8.out⟩
          case measure => simp [RowKit.intOf]; omega
        | succ i =>
          obtain ⟨b', off', hv', hlt', hc'⟩ := (HR.out.below hbel) i (by omega)
          injection hv' with hv'
          injection hv' with hvb hvo
          subst hvb hvo
          have hil := HX.out _ (List.getElem_mem (show i < L.length by omega))
          obtain ⟨q, hqe⟩ : ∃ q, q = L[i]'(by omega) := ⟨_, rfl⟩
          have HQE := Lib.hid hqe
          rw [← hqe] at hc' hil
          have CM0 := fun w => idCompare_any ⟨q.toArray⟩ ⟨x.toArray⟩ (by show q.toArray.size ≤ _; simp; omega) (by show x.toArray.size ≤ _; simp; omega) w
          rw [show (⟨q.toArray⟩ : ByteArray).data.toList = q by simp, show (⟨x.toArray⟩ : ByteArray).data.toList = x by simp] at CM0
          have CM := Lib.hid CM0
          have hii : (i : Int) < (L.length : Int) := by omega
          have HPV := Lib.hid (show prevL L (i + 1) = some q by
            show L[i]? = _
            rw [List.getElem?_eq_getElem (by omega), HQE.out])
          by_cases hcm : 0 ≤ cmpL q x
          · have HN := Lib.hid (show exF needK L = 22 by
              rw [HE.out, ← HP.out, HD.out, exL_cons, hN]
              dsimp only
              rw [if_neg hS, HPV.out]
              exact if_pos (decide_eq_true hcm))
            clear hN hb hbel hc hS CM0 hqe
            generalize cmpL q x = cv at *
            go_wp2_with fail
            go_fit (CM.out _)
            rintro e w3 ⟨rfl, hb⟩
            have BE3 := Lib.hid (BE2.out.trans (hb.mono z2))
            clear hb
            go_wp2_with fail
            go_ret
            exact ⟨by rw [HN.out]; rfl, BE3.out⟩
          · have HN := Lib.hid (show exL needK (prevL L (i + 1 + 1)) (k :: S) (L.drop (i + 1 + 1)) = exL needK none [] L by
              have h := HP.out
              rw [HD.out, exL_cons, hN] at h
              dsimp only at h
              rw [if_neg hS, HPV.out] at h
              rw [if_neg (show ¬ (decide (0 ≤ cmpL q x) = true) by simpa using hcm)] at h
              rw [← h]
              show exL needK (L[i + 1]?) _ _ = _
              rw [List.getElem?_eq_getElem hjl, ← HXE.out])
            clear hN hb hbel hc hS CM0 hqe
            generalize cmpL q x = cv at *
            go_wp2_with fail
            go_fit (CM.out _)
            rintro e w3 ⟨rfl, hb⟩
            have BE3 := Lib.hid (BE2.out.trans (hb.mono z2))
            obtain ⟨w8, hrun, hm8, hg8⟩ := (HM2.out.kept hb).put (by omega) k (by omega)
            have HM8 := Lib.hid hm8
            have BE8 := Lib.hid (BE3.out.trans (⟨hg8.os, hg8.tape, hg8.output, hg8.size, fun k hk => hg8.block k (Nat.lt_of_lt_of_le hk BE3.out.size) (fun e => by injection e with e; omega)⟩ : Below w.heap.size w3 w8))
            clear hb hm8 hg8
            go_wp2_with fail
            go_roundw
            case rel => exact ⟨i + 1 + 1, k :: S, by go_num, by omega, HN.out, HM8.out, BE8.out⟩
            case measure => simp [RowKit.intOf]; omega
    · obtain rfl : j = L.length := by omega
      have HN := Lib.hid (show exF needK L = 0 by rw [HE.out, ← HP.out, List.drop_eq_nil_of_le (Nat.le_refl _)]; rfl)
      clear hj hbel
      go_wp2_with fail
      go_ret
      exact ⟨by rw [HN.out]; rfl, BE.out⟩
end Go.Proofs.YtglckcenjnieaaaGreatDoor
