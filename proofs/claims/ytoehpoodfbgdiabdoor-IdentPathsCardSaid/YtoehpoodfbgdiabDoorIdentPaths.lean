/- The path of any parts, and the parts of any string, or the error, are the document's; each is the inverse of the other. -/
import Derived.Test.YtoehpoodfbgdiabDoorTie
import Derived.Test.YtoehpoodfbgdiabDoorCards
import Derived.Test.YtoehpoodfbgdiabDoorIdnTab
import Derived.Test.YtoehpoodfbgdiabDoorIdnFew
import Derived.Test.YtoehpoodfbgdiabDoorOpenS
import Derived.ProofKit
import Derived.OpenShut
import Derived.LaidMore
import Derived.Stop.Joined
import Derived.SevenTiedAt
namespace Go.Proofs.YtoehpoodfbgdiabDoor.identPaths
open Go.ChangeShapes Go.WideShapes Go.ChangeAt Go.RowKit
open Go.ChangeMaps (open_string shut_string)
set_option linter.unusedVariables false

theorem own : ownKnob Tryd.prog.godebug = none := by kernel_rfl
theorem laidOut : laidOutB Tryd.prog = true := by kernel_rfl

theorem path_short (L : List (List UInt8)) : (pathR L).1.length ≤ 512 := by
  by_cases h : (pathR L).2 = 0
  · obtain ⟨_, _, h3, h4⟩ := pathR_ok h
    rw [h4]; exact h3
  · unfold pathR at h ⊢
    by_cases h0 : L.length = 0
    · rw [if_pos h0]; simp
    · rw [if_neg h0] at h ⊢
      by_cases h1 : L.all nameB = true
      · rw [if_pos h1] at h ⊢
        by_cases h2 : 512 < (joinP L).length
        · rw [if_pos h2]; simp
        · rw [if_neg h2]; show (joinP L).length ≤ 512; omega
      · rw [if_neg h1]; simp
theorem part_small (s : ByteArray) (hs : s.size ≤ 1000) : ∀ x, x ∈ (partsR s.data.toList).1 → x.length ≤ 9223372036854775000 := by
  intro x hx
  have hsl : s.data.toList.length = s.size := by rw [Array.length_toList]; rfl
  by_cases h1 : 512 < s.data.toList.length
  · unfold partsR at hx
    rw [if_pos h1] at hx
    simp at hx
  · unfold partsR at hx
    rw [if_neg h1] at hx
    by_cases h2 : (splitOn [] s.data.toList).all nameB = true
    · rw [if_pos h2] at hx
      have h := splitOn_mem s.data.toList [] x hx
      rw [List.length_nil] at h
      omega
    · rw [if_neg h2] at hx
      simp at hx
theorem parts_short (s : ByteArray) (hs : s.size ≤ 1000) : (partsR s.data.toList).1.length ≤ 1001 := by
  have h := splitOn_len s.data.toList []
  have hsl : s.data.toList.length = s.size := by rw [Array.length_toList]; rfl
  unfold partsR
  repeat' split
  all_goals first | omega | (simp; done) | (show (splitOn [] s.data.toList).length ≤ 1001; omega)
set_option maxHeartbeats 4000000 in
set_option maxRecDepth 100000 in
theorem walk (v : Option Addr) (cap : Nat) (L : List (List UInt8)) (hlen : L.length ≤ cap) (hcap : cap ≤ 9223372036854775807) (hx : ∀ z ∈ L, z.length ≤ 9223372036854775807) (s : ByteArray) (hs : s.size ≤ 140737488355327) (w : World) (hT : Tab4 w) (hr : ReadsStr w v L) :
    Calls Tryd.prog 4 #[.slice v L.length cap, .string s] w fun e w' => e = .returned (.bool true) ∧ Below w.heap.size w w' := by
  have HT := Lib.hid hT
  clear hT
  have HR := Lib.hid hr
  have F := Lib.hid (few_any v cap L 300 (by decide))
  have B0 := Lib.hid (Below.refl w.heap.size w)
  have hll : L.length ≤ 9223372036854775807 := by omega
  have HLEN := Lib.hid hlen
  clear hr hlen hcap hs
  rw [show ((300 : Nat) : Int) = 300 from rfl] at F
  cases hf : fewB L 300
  · rw [hf] at F
    clear hf
    go_enter Tryd.func4, Tryd.ntmps4
    go_wp2_with fail
    go_fit (F.out _ HR.out)
    rintro e w1 ⟨rfl, hb⟩
    have B1 := Lib.hid (B0.out.trans (hb.mono B0.out.size))
    clear hb
    go_wp2_with fail
    go_fit (lives4_any _ (HT.out.below B1.out))
    rintro e w2 ⟨rfl, hb⟩
    have B2 := Lib.hid (B1.out.trans (hb.mono B1.out.size))
    clear hb
    go_wp2_with fail
    go_ret
    exact ⟨rfl, B2.out⟩
  rw [hf] at F
  by_cases hk : 1000 < s.size
  · have g1 : decide ((1000 : Int) < (s.size : Int)) = true := by simp; omega
    clear hf
    go_enter Tryd.func4, Tryd.ntmps4
    go_wp2_with fail
    go_fit (F.out _ HR.out)
    rintro e w1 ⟨rfl, hb⟩
    have B1 := Lib.hid (B0.out.trans (hb.mono B0.out.size))
    clear hb
    go_wp2_with fail
    go_fit (lives4_any _ (HT.out.below B1.out))
    rintro e w2 ⟨rfl, hb⟩
    have B2 := Lib.hid (B1.out.trans (hb.mono B1.out.size))
    clear hb
    go_wp2_with fail
    go_ret
    exact ⟨rfl, B2.out⟩
  have g1 : decide ((1000 : Int) < (s.size : Int)) = false := by simp; omega
  obtain ⟨l1, l2⟩ := fewB_true hf
  have P := Lib.hid (fun w hr => idPath_any v cap L (by omega) HLEN.out (fun x hx => by have := l2 x hx; omega) w hr)
  have Q := Lib.hid (fun w hr => (refPath_any v cap L hll hx w hr).mono fun e w' h => And.intro h.1 (below_eq h.2))
  have X := Lib.hid (idParts_any s (by omega))
  have Y := Lib.hid (refParts_any s (by omega))
  have hpl : (partsR s.data.toList).1.length ≤ 1001 := parts_short s (by omega)
  have SM := Lib.hid (fun (a b : Option Addr) (c d : Nat) w hr hs => (refSameS_any a b c d (partsR s.data.toList).1 (partsR s.data.toList).1 (by omega) (by omega) w hr hs).mono fun e w' h => And.intro h.1 (below_dn h.2))
  rw [show (decide ((partsR s.data.toList).1 = (partsR s.data.toList).1)) = true by simp] at SM
  clear hf l1
  have hlp : (pathR L).1.length ≤ 512 := path_short L
  have hz : (0 : Nat) ≤ 1 := by omega
  by_cases he : (pathR L).2 = 0
  · have PB := Lib.hid (idParts_any ⟨(pathR L).1.toArray⟩ (by show (pathR L).1.toArray.size ≤ _; rw [List.size_toArray]; omega))
    rw [show (⟨(pathR L).1.toArray⟩ : ByteArray).data.toList = (pathR L).1 by simp, parts_path he] at PB
    have SL := Lib.hid (fun (a b : Option Addr) (c d : Nat) w hr hs => (refSameS_any a b c d L L hll hll w hr hs).mono fun e w' h => And.intro h.1 (below_dn h.2))
    rw [show (decide (L = L)) = true by simp] at SL
    rw [he, show ((0 : Nat) : Int) = 0 from rfl] at P Q
    clear he hlp hz
    generalize (⟨(pathR L).1.toArray⟩ : ByteArray) = p at P Q PB
    have tp : (p.toList == p.toList) = true := by simp
    by_cases hg : (partsR s.data.toList).2 = 0
    · have XB := Lib.hid (fun (a : Option Addr) (c : Nat) hc w hr => idPath_any a c (partsR s.data.toList).1 (by omega) hc (part_small s (by omega)) w hr)
      rw [path_parts hg] at XB
      rw [show (⟨(s.data.toList, 0).1.toArray⟩ : ByteArray) = s from str_back s, show (((s.data.toList, (0 : Nat)).2 : Nat) : Int) = 0 from rfl] at XB
      have ts : (s.toList == s.toList) = true := by simp
      unfold PartsPost at X Y
      rw [hg, show ((0 : Nat) : Int) = 0 from rfl] at X Y
      clear hg
      go_enter Tryd.func4, Tryd.ntmps4
      go_wp2_with fail
      go_fit (F.out _ HR.out)
      rintro e w1 ⟨rfl, hb⟩
      have B1 := Lib.hid (B0.out.trans (hb.mono B0.out.size))
      clear hb
      go_wp2_with fail
      go_fit (P.out _ (HR.out.below B1.out))
      rintro e w2 ⟨rfl, hb⟩
      have B2 := Lib.hid (B1.out.trans (hb.mono B1.out.size))
      clear hb
      go_wp2_with fail
      go_fit (Q.out _ (HR.out.below B2.out))
      rintro e w3 ⟨rfl, hb⟩
      have B3 := Lib.hid (B2.out.trans (hb.mono B2.out.size))
      clear hb
      go_wp2_with fail
      go_fit (X.out _ (HT.out.below B3.out))
      rintro e w4 ⟨a4, c4, rfl, hb, hr4, hc4, _⟩
      have B4 := Lib.hid (B3.out.trans (hb.mono B3.out.size))
      have R4 := Lib.hid hr4
      have C4 := Lib.hid hc4
      clear hb hr4 hc4
      go_wp2_with fail
      go_fit (Y.out _)
      rintro e w5 ⟨a5, c5, rfl, hb, hr5, _, _⟩
      have B5 := Lib.hid (B4.out.trans (hb.mono B4.out.size))
      have R45 := Lib.hid (R4.out.below hb)
      have R5 := Lib.hid hr5
      clear hb hr5
      go_wp2_with fail
      go_fit (SM.out _ _ _ _ _ R45.out R5.out)
      rintro e w6 ⟨rfl, hb⟩
      have B6 := Lib.hid (B5.out.trans (hb.mono B5.out.size))
      have R46 := Lib.hid (R45.out.below hb)
      clear hb
      go_wp2_with fail
      go_fit (PB.out _ (HT.out.below B6.out))
      rintro e w7 ⟨a7, c7, rfl, hb, hr7, _, _⟩
      have B7 := Lib.hid (B6.out.trans (hb.mono B6.out.size))
      have R47 := Lib.hid (R46.out.below hb)
      have R7 := Lib.hid hr7
      clear hb hr7
      go_wp2_with fail
      go_fit (SL.out _ _ _ _ _ R7.out (HR.out.below B7.out))
      rintro e w8 ⟨rfl, hb⟩
      have B8 := Lib.hid (B7.out.trans (hb.mono B7.out.size))
      have R48 := Lib.hid (R47.out.below hb)
      clear hb
      go_wp2_with fail
      go_fit (XB.out _ _ C4.out _ R48.out)
      rintro e w9 ⟨rfl, hb⟩
      have B9 := Lib.hid (B8.out.trans (hb.mono B8.out.size))
      clear hb
      go_wp2_with fail
      go_fit (lives4_any _ (HT.out.below B9.out))
      rintro e w10 ⟨rfl, hb⟩
      have B10 := Lib.hid (B9.out.trans (hb.mono B9.out.size))
      clear hb
      go_wp2_with fail
      go_ret
      exact ⟨rfl, B10.out⟩
    · unfold PartsPost at X Y
      obtain ⟨n, hn⟩ : ∃ n : Int, n = ((partsR s.data.toList).2 : Nat) := ⟨_, rfl⟩
      rw [← hn] at X Y
      have n0 : (n == 0) = false := by rw [beq_eq_false_iff_ne]; omega
      clear hg hn
      go_enter Tryd.func4, Tryd.ntmps4
      go_wp2_with fail
      go_fit (F.out _ HR.out)
      rintro e w1 ⟨rfl, hb⟩
      have B1 := Lib.hid (B0.out.trans (hb.mono B0.out.size))
      clear hb
      go_wp2_with fail
      go_fit (P.out _ (HR.out.below B1.out))
      rintro e w2 ⟨rfl, hb⟩
      have B2 := Lib.hid (B1.out.trans (hb.mono B1.out.size))
      clear hb
      go_wp2_with fail
      go_fit (Q.out _ (HR.out.below B2.out))
      rintro e w3 ⟨rfl, hb⟩
      have B3 := Lib.hid (B2.out.trans (hb.mono B2.out.size))
      clear hb
      go_wp2_with fail
      go_fit (X.out _ (HT.out.below B3.out))
      rintro e w4 ⟨a4, c4, rfl, hb, hr4, hc4, _⟩
      have B4 := Lib.hid (B3.out.trans (hb.mono B3.out.size))
      have R4 := Lib.hid hr4
      have C4 := Lib.hid hc4
      clear hb hr4 hc4
      go_wp2_with fail
      go_fit (Y.out _)
      rintro e w5 ⟨a5, c5, rfl, hb, hr5, _, _⟩
      have B5 := Lib.hid (B4.out.trans (hb.mono B4.out.size))
      have R45 := Lib.hid (R4.out.below hb)
      have R5 := Lib.hid hr5
      clear hb hr5
      go_wp2_with fail
      go_fit (SM.out _ _ _ _ _ R45.out R5.out)
      rintro e w6 ⟨rfl, hb⟩
      have B6 := Lib.hid (B5.out.trans (hb.mono B5.out.size))
      have R46 := Lib.hid (R45.out.below hb)
      clear hb
      go_wp2_with fail
      go_fit (PB.out _ (HT.out.below B6.out))
      rintro e w7 ⟨a7, c7, rfl, hb, hr7, _, _⟩
      have B7 := Lib.hid (B6.out.trans (hb.mono B6.out.size))
      have R47 := Lib.hid (R46.out.below hb)
      have R7 := Lib.hid hr7
      clear hb hr7
      go_wp2_with fail
      go_fit (SL.out _ _ _ _ _ R7.out (HR.out.below B7.out))
      rintro e w8 ⟨rfl, hb⟩
      have B8 := Lib.hid (B7.out.trans (hb.mono B7.out.size))
      have R48 := Lib.hid (R47.out.below hb)
      clear hb
      go_wp2_with fail
      go_fit (lives4_any _ (HT.out.below B8.out))
      rintro e w10 ⟨rfl, hb⟩
      have B10 := Lib.hid (B8.out.trans (hb.mono B8.out.size))
      clear hb
      go_wp2_with fail
      go_ret
      exact ⟨rfl, B10.out⟩
  · obtain ⟨m, hm⟩ : ∃ m : Int, m = ((pathR L).2 : Nat) := ⟨_, rfl⟩
    have m0 : (m == 0) = false := by rw [beq_eq_false_iff_ne]; omega
    rw [← hm] at P Q
    clear he hlp hz hm
    generalize (⟨(pathR L).1.toArray⟩ : ByteArray) = p at P Q
    have tp : (p.toList == p.toList) = true := by simp
    by_cases hg : (partsR s.data.toList).2 = 0
    · have XB := Lib.hid (fun (a : Option Addr) (c : Nat) hc w hr => idPath_any a c (partsR s.data.toList).1 (by omega) hc (part_small s (by omega)) w hr)
      rw [path_parts hg] at XB
      rw [show (⟨(s.data.toList, 0).1.toArray⟩ : ByteArray) = s from str_back s, show (((s.data.toList, (0 : Nat)).2 : Nat) : Int) = 0 from rfl] at XB
      have ts : (s.toList == s.toList) = true := by simp
      unfold PartsPost at X Y
      rw [hg, show ((0 : Nat) : Int) = 0 from rfl] at X Y
      clear hg
      go_enter Tryd.func4, Tryd.ntmps4
      go_wp2_with fail
      go_fit (F.out _ HR.out)
      rintro e w1 ⟨rfl, hb⟩
      have B1 := Lib.hid (B0.out.trans (hb.mono B0.out.size))
      clear hb
      go_wp2_with fail
      go_fit (P.out _ (HR.out.below B1.out))
      rintro e w2 ⟨rfl, hb⟩
      have B2 := Lib.hid (B1.out.trans (hb.mono B1.out.size))
      clear hb
      go_wp2_with fail
      go_fit (Q.out _ (HR.out.below B2.out))
      rintro e w3 ⟨rfl, hb⟩
      have B3 := Lib.hid (B2.out.trans (hb.mono B2.out.size))
      clear hb
      go_wp2_with fail
      go_fit (X.out _ (HT.out.below B3.out))
      rintro e w4 ⟨a4, c4, rfl, hb, hr4, hc4, _⟩
      have B4 := Lib.hid (B3.out.trans (hb.mono B3.out.size))
      have R4 := Lib.hid hr4
      have C4 := Lib.hid hc4
      clear hb hr4 hc4
      go_wp2_with fail
      go_fit (Y.out _)
      rintro e w5 ⟨a5, c5, rfl, hb, hr5, _, _⟩
      have B5 := Lib.hid (B4.out.trans (hb.mono B4.out.size))
      have R45 := Lib.hid (R4.out.below hb)
      have R5 := Lib.hid hr5
      clear hb hr5
      go_wp2_with fail
      go_fit (SM.out _ _ _ _ _ R45.out R5.out)
      rintro e w6 ⟨rfl, hb⟩
      have B6 := Lib.hid (B5.out.trans (hb.mono B5.out.size))
      have R46 := Lib.hid (R45.out.below hb)
      clear hb
      go_wp2_with fail
      go_fit (XB.out _ _ C4.out _ R46.out)
      rintro e w9 ⟨rfl, hb⟩
      have B9 := Lib.hid (B6.out.trans (hb.mono B6.out.size))
      clear hb
      go_wp2_with fail
      go_fit (lives4_any _ (HT.out.below B9.out))
      rintro e w10 ⟨rfl, hb⟩
      have B10 := Lib.hid (B9.out.trans (hb.mono B9.out.size))
      clear hb
      go_wp2_with fail
      go_ret
      exact ⟨rfl, B10.out⟩
    · unfold PartsPost at X Y
      obtain ⟨n, hn⟩ : ∃ n : Int, n = ((partsR s.data.toList).2 : Nat) := ⟨_, rfl⟩
      rw [← hn] at X Y
      have n0 : (n == 0) = false := by rw [beq_eq_false_iff_ne]; omega
      clear hg hn
      go_enter Tryd.func4, Tryd.ntmps4
      go_wp2_with fail
      go_fit (F.out _ HR.out)
      rintro e w1 ⟨rfl, hb⟩
      have B1 := Lib.hid (B0.out.trans (hb.mono B0.out.size))
      clear hb
      go_wp2_with fail
      go_fit (P.out _ (HR.out.below B1.out))
      rintro e w2 ⟨rfl, hb⟩
      have B2 := Lib.hid (B1.out.trans (hb.mono B1.out.size))
      clear hb
      go_wp2_with fail
      go_fit (Q.out _ (HR.out.below B2.out))
      rintro e w3 ⟨rfl, hb⟩
      have B3 := Lib.hid (B2.out.trans (hb.mono B2.out.size))
      clear hb
      go_wp2_with fail
      go_fit (X.out _ (HT.out.below B3.out))
      rintro e w4 ⟨a4, c4, rfl, hb, hr4, hc4, _⟩
      have B4 := Lib.hid (B3.out.trans (hb.mono B3.out.size))
      have R4 := Lib.hid hr4
      have C4 := Lib.hid hc4
      clear hb hr4 hc4
      go_wp2_with fail
      go_fit (Y.out _)
      rintro e w5 ⟨a5, c5, rfl, hb, hr5, _, _⟩
      have B5 := Lib.hid (B4.out.trans (hb.mono B4.out.size))
      have R45 := Lib.hid (R4.out.below hb)
      have R5 := Lib.hid hr5
      clear hb hr5
      go_wp2_with fail
      go_fit (SM.out _ _ _ _ _ R45.out R5.out)
      rintro e w6 ⟨rfl, hb⟩
      have B6 := Lib.hid (B5.out.trans (hb.mono B5.out.size))
      have R46 := Lib.hid (R45.out.below hb)
      clear hb
      go_wp2_with fail
      go_fit (lives4_any _ (HT.out.below B6.out))
      rintro e w10 ⟨rfl, hb⟩
      have B10 := Lib.hid (B6.out.trans (hb.mono B6.out.size))
      clear hb
      go_wp2_with fail
      go_ret
      exact ⟨rfl, B10.out⟩

set_option maxRecDepth 100000 in
theorem lifted (os : Os) (started : os.Started) (H : Type) (enc : TypeId × Value → H) :
    ReturnsInHanded {} Tryd.checked os 4 .any (fun w args => (Rows.identPathsSpec.pre enc Tryd.prog Tryd.f4 Rows.identPathsRow.domain false w args ∧ laidMetH Tryd.prog laid4 w) ∧ sizedMet enc Tryd.prog Tryd.f4 (OpenSpec.ofChange Rows.identPathsSpec) false w args) (Rows.identPathsSpec.post enc Tryd.prog Tryd.f4 false true false false) := by
  refine returnsInHanded_of_change_andShaped (C := Tryd.checked) (X := fun w _ => laidMetH Tryd.prog laid4 w) (fun _ _ _ hh h => h.of_heap hh) own started (by kernel_rfl) Tryd.func4
    (ChangeSpec.witness_shaped (enc := enc) (C := Tryd.checked) (os := os) (X := fun w _ => laidMetH Tryd.prog laid4 w) false (World.laidAll Tryd.prog os laid4) #[.slice none 0 0, .string ⟨#[]⟩] 8 (World.laidAll_os _ _ _) (World.shaped_of_ZipB (by kernel_rfl) (by kernel_rfl)) (by kernel_rfl) (by kernel_rfl) (by kernel_rfl) (lay4_met os _)) ?_
  intro W base args ds gs before hval0 hW hcnd hsz hL hsh _
  have hval : ∀ (j : Nat) t v, Tryd.f4.params[j]? = some t → args[j]? = some v → Value.okWide Tryd.prog W .any base t v := hval0
  have hW' := hW
  obtain ⟨p, q, hA0, hV, rfl, hfz, hnd⟩ := hW
  have hA : DataW.TrodAll enc Tryd.prog W 0 (fun _ => true) true Tryd.f4.params.toList args.toList ds p := hA0
  rw [Tryd.params4] at hA hval hsz
  obtain ⟨v0, vs0, d0, ds0, p0, q0, hargs, rfl, rfl, h0, r0⟩ := trodAll_cons hA
  obtain ⟨v1, vs1, d1, ds1, p1, q1, rfl, rfl, rfl, h1, r1⟩ := trodAll_cons r0
  obtain ⟨rfl, rfl, rfl⟩ := trodAll_nil r1
  obtain rfl : args = #[v0, v1] := by cases args; simp_all
  obtain ⟨rfl, rfl⟩ := trodVars_none hV
  obtain ⟨a0, len0, cap0, rfl⟩ := okWide_slice Tryd.underlying27 (hval 0 27 v0 rfl rfl)
  have k0 := h0
  have lt0 : ∀ x ∈ p0, x.block < W.heap.size := by obtain ⟨m, hm⟩ := k0; exact DataW.trod_lt m _ _ _ hm
  obtain ⟨L0, rfl, hL0, hlen0, hx0, hr0⟩ : ∃ L : List (List UInt8), len0 = L.length ∧ L.length ≤ cap0 ∧ cap0 ≤ 9223372036854775807 ∧ (∀ z ∈ L, z.length ≤ 9223372036854775807) ∧ ReadsStr W a0 L := by
    obtain ⟨fuel, hf⟩ := h0
    rcases Go.Deep.open_strs Tryd.underlying27 Tryd.underlying9 (by kernel_rfl) hf with ⟨hcs, _⟩ | ⟨x, l, c, m, Sx, hcs, _, hl, hm, hz, _, hcell⟩
    · simp [Value.cells] at hcs
      obtain ⟨rfl, rfl, rfl⟩ := hcs
      exact ⟨[], rfl, by simp, by simp, by simp, fun k hk => by simp at hk⟩
    · simp [Value.cells] at hcs
      obtain ⟨rfl, rfl, rfl⟩ := hcs
      exact reads_ofS hl hm (by simp at hz; omega) hcell
  obtain ⟨a1, rfl, rfl, rfl, w1⟩ := open_string Tryd.underlying9 (hval 1 9 v1 rfl rfl) h1
  have z1 : a1.size ≤ 140737488355327 := by
    have h := sized_string hsz (j := 1) (t := 9) rfl rfl
    rw [Array.length_toList] at h
    exact Nat.le_trans h (by decide)
  clear hA0 hval0
  refine (walk a0 cap0 L0 hL0 hlen0 hx0 a1 z1 W (tab4_of hsh) hr0).mono fun e W' ⟨he, bel⟩ => ?_
  subst he
  exact ⟨_, rfl, _, _, _, [], _, [], hW', trodAll_mk1 (shut_bool Tryd.underlying4 _), (trodAll_cons_mk (Below.trod laidOut (by kernel_rfl) (of_decide_eq_true (by kernel_rfl)) k0 bel lt0) (trodAll_cons_mk (shut_string Tryd.underlying9 w1) trodAll_mk0)), rfl, bel.frame _, fun h => by cases h⟩

theorem over : Rows.identPathsRow.holds Tryd.pinned (OpenSpec.ofChange Rows.identPathsSpec) :=
  OpenClaim.holds_of_wide 4 Tryd.f4 rfl rfl rfl rfl rfl rfl rfl ⟨rfl, rfl, rfl, rfl, rfl⟩ rfl rfl rfl rfl rfl (by kernel_rfl) Tryd.func4 (by kernel_rfl)
    (of_decide_eq_true (by kernel_rfl)) (by unfold Func.isWrapper; first | (rw [if_pos (by decide +kernel)]; kernel_rfl) | (rw [if_neg (by decide +kernel)]; exact ⟨rfl, rfl⟩))
    (fun os started H enc _ => lifted os started H enc)

/-- THE STATEMENT. -/
theorem proved : Rows.IdentPathsCardSaid :=
  Claim7.holds_tied_plain_at .later [] [.data, .pinned] true Rows.identPathsCard.stood.harness false
    over (fun _ h => by cases h) (by kernel_rfl) (fun _ h => by cases h) identPaths_row_tie rfl ⟨rfl, rfl⟩ (by kernel_rfl) rfl
    (fun f fn hf hfn => by
      obtain rfl : f = 4 := Option.some.inj ((show Tryd.prog.funcNamed "pipeline/pipelinelaw04.IdentPaths" = some 4 by kernel_rfl).symm.trans hf) |>.symm
      obtain rfl : fn = Tryd.f4 := (Option.some.inj (Tryd.func4.symm.trans hfn)).symm
      exact ⟨by kernel_rfl, fun j t ht => by
        rw [Tryd.params4] at ht
        have hm : t ∈ [27, 9] := by simpa using Array.mem_of_getElem? ht
        have hall : ([27, 9].all fun u => !Tryd.prog.wantsStandIn u) = true := by kernel_rfl
        exact (show Tryd.prog.wantsStandIn t = false by simpa using List.all_eq_true.1 hall t hm)⟩)
    (by kernel_rfl)
#print axioms proved
end Go.Proofs.YtoehpoodfbgdiabDoor.identPaths
