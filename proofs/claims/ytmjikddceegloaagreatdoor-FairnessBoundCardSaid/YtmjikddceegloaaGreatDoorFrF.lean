/- The contracts of BinarySearchFunc and find (fairness). -/
import Derived.Test.YtmjikddceegloaaGreatDoorFrE
namespace Go.Proofs.YtmjikddceegloaaGreatDoor
open Go.RowKit Go.Lib
set_option linter.unusedSimpArgs false

/-- Where a project stands, or would stand. -/
structure PosAt (L : List Sha) (p : List UInt8) (k : Nat) : Prop where
  le : k ≤ L.length
  low : ∀ t (h : t < L.length), t < k → cmpL L[t].prj p < 0
  high : ∀ t (h : t < L.length), k ≤ t → 0 ≤ cmpL L[t].prj p
theorem ValidS.down {L : List Sha} (h : ValidS L) {p : List UInt8} {m t : Nat} (hm : m < L.length) (ht : t ≤ m) (hc : cmpL L[m].prj p < 0) : cmpL (L[t]'(by omega)).prj p < 0 := by
  rcases Nat.lt_or_eq_of_le ht with hl | rfl
  · exact cmp_lt_trans (h.lt hl hm) hc
  · exact hc
theorem ValidS.up {L : List Sha} (h : ValidS L) {p : List UInt8} {m t : Nat} (hm : m < L.length) (ht : m ≤ t) (htl : t < L.length) (hc : 0 ≤ cmpL L[m].prj p) : 0 ≤ cmpL L[t].prj p := by
  apply Classical.byContradiction
  intro hn
  have := h.down htl ht (show cmpL L[t].prj p < 0 by omega)
  omega
/-- What find answers. -/
def FindR (L : List Sha) (p : List UInt8) (k : Nat) (b : Bool) : Prop := PosAt L p k ∧ (b = true ↔ ∃ h : k < L.length, L[k].prj = p)
theorem name_len {a : List UInt8} (h : nameB a = true) : a.length ≤ 64 := by
  match a, h with
  | c :: r, h =>
    unfold nameB at h
    simp only [Bool.and_eq_true, decide_eq_true_eq] at h
    rw [List.length_cons]
    exact h.1.1
theorem ValidS.plen {L : List Sha} (h : ValidS L) {i : Nat} (hi : i < L.length) : L[i].prj.length ≤ 64 := name_len (h.right hi).1
def FindPost (L : List Sha) (p : List UInt8) (w : World) (e : Ending) (w' : World) : Prop := ∃ (k : Nat) (b : Bool), e = .returned (.tuple #[.int .i64 (k : Int), .bool b]) ∧ FindR L p k b ∧ Below w.heap.size w w'
set_option maxHeartbeats 4000000 in
set_option maxRecDepth 100000 in
theorem bsearch_any (v : Option Addr) (cap : Nat) (L : List Sha) (hV : ValidS L) (p : ByteArray) (hp : p.size ≤ 1000000) (w : World) (hr : ReadsH w v L) :
    Calls Tryz.prog 53 #[.slice v L.length cap, .string p, .func (Fn.func 54) #[] #[]] w (FindPost L p.data.toList w) := by
  have HR := Lib.hid hr
  have HV := Lib.hid hV
  have hlen := hV.len
  have HC := Lib.hid (fun s h w => findKey_any s p h hp w)
  obtain ⟨pl, hpl⟩ : ∃ pl, pl = p.data.toList := ⟨_, rfl⟩
  rw [← hpl] at HC ⊢
  clear hr hV hpl
  go_enter Tryz.func53, Tryz.ntmps53
  go_wp2_with fail
  go_loopw [9, 10] (fun s9 s10 wr => ∃ lo hi : Nat, s9 = .int .i64 (lo : Int) ∧ s10 = .int .i64 (hi : Int) ∧ lo ≤ hi ∧ hi ≤ L.length ∧ Hid (∀ t (h : t < L.length), t < lo → cmpL L[t].prj pl < 0) ∧ Hid (∀ t (h : t < L.length), hi ≤ t → 0 ≤ cmpL L[t].prj pl) ∧ Hid (Below w.heap.size w wr)) (fun s9 s10 _ => (RowKit.intOf s10).toNat - (RowKit.intOf s9).toNat)
  case atStart => exact ⟨0, L.length, rfl, rfl, by omega, by omega, Lib.hid (fun t h ht => absurd ht (Nat.not_lt_zero _)), Lib.hid (fun t h ht => by omega), Lib.hid (Below.refl _ _)⟩
  case round =>
    obtain ⟨lo, hi, rfl, rfl, hlh, hin, HL, HH, HB⟩ := hrel
    by_cases hlt : lo < hi
    · obtain ⟨m, hm⟩ : ∃ m, m = (lo + hi) / 2 := ⟨_, rfl⟩
      have hmI : ((lo : Int) + (hi : Int)) / 2 = (m : Int) := by omega
      have hml : m < L.length := by omega
      have hlI : (lo : Int) < (hi : Int) := by omega
      have hm1 : lo ≤ m ∧ m < hi := by omega
      clear hm
      have m0 : (0 : Int) ≤ (m : Int) ∧ (m : Int) < (L.length : Int) := by omega
      obtain ⟨b, off, rfl, hbl, c0, c1, c2⟩ := (HR.out.below HB.out) m hml
      have C := HC.out L[m] (by have := HV.out.plen hml; omega) wr
      have HD := Lib.hid (fun t (ht : t ≤ m) h => HV.out.down (p := pl) (t := t) hml ht h)
      have HU := Lib.hid (fun t (ht : m ≤ t) htl h => HV.out.up (p := pl) (t := t) hml ht htl h)
      unfold shV at C
      obtain ⟨sx, hsx⟩ : ∃ s : ByteArray, s = ⟨L[m].prj.toArray⟩ := ⟨_, rfl⟩
      rw [← hsx] at C c0
      generalize L[m].wgt = gx at *
      generalize L[m].srv = vx at *
      generalize cmpL L[m].prj pl = cv at *
      have C := Lib.hid C
      clear hsx
      by_cases hcv : cv < 0
      · have HL2 := Lib.hid (show ∀ t (h : t < L.length), t < m + 1 → cmpL L[t].prj pl < 0 from fun t h ht => HD.out t (by omega) hcv)
        go_wp2_with fail
        go_fit C.out
        rintro e w2 ⟨rfl, hb⟩
        have B2 := Lib.hid (HB.out.trans (hb.mono HB.out.size))
        clear hb
        go_wp2_with fail
        exact ⟨⟨m + 1, hi, by go_num, rfl, by omega, hin, HL2, HH, B2⟩, by simp [RowKit.intOf]; omega⟩
      · have HH2 := Lib.hid (show ∀ t (h : t < L.length), m ≤ t → 0 ≤ cmpL L[t].prj pl from fun t h ht => HU.out t ht h (by omega))
        go_wp2_with fail
        go_fit C.out
        rintro e w2 ⟨rfl, hb⟩
        have B2 := Lib.hid (HB.out.trans (hb.mono HB.out.size))
        clear hb
        go_wp2_with fail
        exact ⟨⟨lo, m, rfl, by go_num, by omega, by omega, HL, HH2, B2⟩, by simp [RowKit.intOf]; omega⟩
    · obtain rfl : hi = lo := by omega
      have HP := Lib.hid (show PosAt L pl hi from ⟨hin, HL.out, HH.out⟩)
      by_cases hn : hi < L.length
      · have hnI : (hi : Int) < (L.length : Int) := by omega
        have m0 : (0 : Int) ≤ (hi : Int) := by omega
        obtain ⟨b, off, rfl, hbl, c0, c1, c2⟩ := (HR.out.below HB.out) hi hn
        have C := HC.out L[hi] (by have := HV.out.plen hn; omega) wr
        have HE := Lib.hid (cmp_tot.eq L[hi].prj pl)
        unfold shV at C
        obtain ⟨sx, hsx⟩ : ∃ s : ByteArray, s = ⟨L[hi].prj.toArray⟩ := ⟨_, rfl⟩
        rw [← hsx] at C c0
        generalize L[hi].wgt = gx at *
        generalize L[hi].srv = vx at *
        generalize cmpL L[hi].prj pl = cv at *
        have C := Lib.hid C
        clear hsx
        by_cases hcv : cv = 0
        · have HF := Lib.hid (show FindR L pl hi true from ⟨HP.out, ⟨fun _ => ⟨hn, HE.out.1 hcv⟩, fun _ => rfl⟩⟩)
          subst hcv
          go_wp2_with fail
          go_fit C.out
          rintro e w2 ⟨rfl, hb⟩
          have B2 := Lib.hid (HB.out.trans (hb.mono HB.out.size))
          clear hb
          go_wp2_with fail
          go_ret2
          exact ⟨hi, true, rfl, HF.out, B2.out⟩
        · have HF := Lib.hid (show FindR L pl hi false from ⟨HP.out, ⟨(fun h => by cases h), fun ⟨_, h⟩ => absurd (HE.out.2 h) hcv⟩⟩)
          have u : (cv == 0) = false := by rw [beq_eq_false_iff_ne]; exact hcv
          go_wp2_with fail
          go_fit C.out
          rintro e w2 ⟨rfl, hb⟩
          have B2 := Lib.hid (HB.out.trans (hb.mono HB.out.size))
          clear hb
          go_wp2_with fail
          go_ret2
          exact ⟨hi, false, rfl, HF.out, B2.out⟩
      · have hnI : ¬ (hi : Int) < (L.length : Int) := by omega
        have HF := Lib.hid (show FindR L pl hi false from ⟨HP.out, ⟨(fun h => by cases h), fun ⟨h, _⟩ => absurd h hn⟩⟩)
        go_wp2_with fail
        go_ret2
        exact ⟨hi, false, rfl, HF.out, HB.out⟩
set_option maxHeartbeats 1000000 in
theorem find_any (v : Option Addr) (cap : Nat) (L : List Sha) (hV : ValidS L) (p : ByteArray) (hp : p.size ≤ 1000000) (w : World) (hr : ReadsH w v L) :
    Calls Tryz.prog 26 #[.slice v L.length cap, .string p] w (FindPost L p.data.toList w) := by
  have S := Lib.hid (bsearch_any v cap L hV p hp w hr)
  clear hr hV
  go_enter Tryz.func26, Tryz.ntmps26
  go_wp2_with fail
  go_fit S.out
  rintro e w1 ⟨k, b, rfl, hf, hb⟩
  have HF := Lib.hid hf
  have B := Lib.hid hb
  clear hf hb
  go_wp2_with fail
  go_ret2
  exact ⟨k, b, rfl, HF.out, B.out⟩
end Go.Proofs.YtmjikddceegloaaGreatDoor
