/- Contracts of the program's compound, notKey, validKeys and validPart, and of ContainsFunc over strings (value). -/
import Derived.Test.YtabopneehhnhfabDoorValB
namespace Go.Proofs.YtabopneehhnhfabDoor
open Go.RowKit Go.Lib

theorem compound_any (k : Int) (t : Bool) (i : Int) (s : ByteArray) (av kv : Option Addr) (n c kn kc : Nat) (w : World) :
    Calls Tryd.prog 72 #[.agg #[.int .i64 k, .bool t, .int .i64 i, .string s, .slice av n c, .slice kv kn kc]] w fun e w' => e = .returned (.bool (k == 4 || k == 5)) ∧ Below w.heap.size w w' := by
  go_enter Tryd.func72, Tryd.ntmps72
  go_wp2_with fail
  all_goals
    go_ret
    exact ⟨by simp_all, by repeat (first | exact Below.refl _ _ | refine Below.setCell ?_ (by simp <;> omega) _ | refine Below.alloc ?_ (by simp <;> omega) _)⟩

theorem keyB_str (s : ByteArray) : keyB s.data.toList = (decide (1 ≤ s.size) && decide (s.size ≤ 64)) := by
  unfold keyB
  rw [listS_len]
theorem notKey_any (s : ByteArray) (w : World) :
    Calls Tryd.prog 80 #[.string s] w fun e w' => e = .returned (.bool (!keyB s.data.toList)) ∧ Below w.heap.size w w' := by
  have hk := Lib.hid (keyB_str s)
  have h1 : s.toList.isEmpty = decide (s.size = 0) := empty_iff s
  by_cases h0 : s.size = 0
  · rw [decide_eq_true h0] at h1
    have H := Lib.hid h0
    clear h0
    go_enter Tryd.func80, Tryd.ntmps80
    go_wp2_with fail
    go_ret
    exact ⟨by rw [hk.out, H.out]; rfl, by repeat (first | exact Below.refl _ _ | refine Below.setCell ?_ (by simp <;> omega) _ | refine Below.alloc ?_ (by simp <;> omega) _)⟩
  · rw [decide_eq_false h0] at h1
    by_cases h2 : s.size ≤ 64
    · have g : ¬ (64 : Int) < (s.size : Int) := by omega
      have H := Lib.hid (show keyB s.data.toList = true by rw [hk.out, decide_eq_true (by omega), decide_eq_true h2]; rfl)
      clear h0 h2
      go_enter Tryd.func80, Tryd.ntmps80
      go_wp2_with fail
      go_ret
      exact ⟨by rw [H.out]; simp, by repeat (first | exact Below.refl _ _ | refine Below.setCell ?_ (by simp <;> omega) _ | refine Below.alloc ?_ (by simp <;> omega) _)⟩
    · have g : (64 : Int) < (s.size : Int) := by omega
      have H := Lib.hid (show keyB s.data.toList = false by rw [hk.out, decide_eq_false h2, Bool.and_false])
      clear h0 h2
      go_enter Tryd.func80, Tryd.ntmps80
      go_wp2_with fail
      go_ret
      exact ⟨by rw [H.out]; simp, by repeat (first | exact Below.refl _ _ | refine Below.setCell ?_ (by simp <;> omega) _ | refine Below.alloc ?_ (by simp <;> omega) _)⟩

set_option maxHeartbeats 1000000 in
theorem indexBad_any (v : Option Addr) (cap : Nat) (L : List (List UInt8)) (hl : L.length ≤ 9223372036854775000) (w : World) (hr : ReadsStr w v L) :
    Calls Tryd.prog 85 #[.slice v L.length cap, .func (.func 80) #[] #[]] w fun e w' => (∃ z : Int, e = .returned (.int .i64 z) ∧ (decide (0 ≤ z) = !L.all keyB)) ∧ Below w.heap.size w w' := by
  have HR := Lib.hid hr
  clear hr
  go_enter Tryd.func85, Tryd.ntmps85
  go_wp2_with fail
  go_loopw [8] (fun s8 wr => ∃ i : Nat, i ≤ L.length ∧ s8 = .int .i64 i ∧ L.all keyB = (L.drop i).all keyB ∧ Below w.heap.size w wr) (fun s8 _ => L.length - (RowKit.intOf s8).toNat)
  case atStart => exact ⟨0, by omega, rfl, rfl, Below.refl _ _⟩
  case round =>
    obtain ⟨i, hi, rfl, hd, hbel⟩ := hrel
    have HD := Lib.hid hd
    have HB := Lib.hid hbel
    have HR1 := Lib.hid (HR.out.below hbel)
    clear hd hbel
    by_cases hlt : i < L.length
    · obtain ⟨b, off, rfl, hb, hc⟩ := HR1.out i hlt
      have F := Lib.hid (fun w => notKey_any ⟨L[i].toArray⟩ w)
      have h1 : (L.drop i).all keyB = (keyB L[i] && (L.drop (i + 1)).all keyB) := by rw [List.drop_eq_getElem_cons hlt, List.all_cons]
      rw [show (⟨L[i].toArray⟩ : ByteArray).data.toList = L[i] by simp] at F
      generalize keyB L[i] = q at F h1
      generalize (⟨L[i].toArray⟩ : ByteArray) = x at hc F
      cases q
      · have HF := Lib.hid (show L.all keyB = false by rw [HD.out, h1]; rfl)
        clear h1
        go_wp2_with fail
        go_fit (F.out _)
        rintro e w1 ⟨rfl, hb2⟩
        have HB2 := Lib.hid (HB.out.trans (hb2.mono HB.out.size))
        clear hb2
        go_wp2_with fail
        go_ret
        exact ⟨⟨_, rfl, by rw [HF.out]; simp⟩, HB2.out⟩
      · have HF := Lib.hid (show L.all keyB = (L.drop (i + 1)).all keyB by rw [HD.out, h1]; rfl)
        clear h1
        go_wp2_with fail
        go_fit (F.out _)
        rintro e w1 ⟨rfl, hb2⟩
        have HB2 := Lib.hid (HB.out.trans (hb2.mono HB.out.size))
        clear hb2
        go_wp2_with fail
        exact ⟨⟨i + 1, by omega, by go_num, HF.out, HB2.out⟩, by simp [RowKit.intOf]; omega⟩
    · obtain rfl : i = L.length := by omega
      have HF := Lib.hid (show L.all keyB = true by rw [HD.out]; simp)
      go_wp2_with fail
      go_ret
      exact ⟨⟨_, rfl, by rw [HF.out]; rfl⟩, HB.out⟩
set_option maxHeartbeats 1000000 in
theorem containsBad_any (v : Option Addr) (cap : Nat) (L : List (List UInt8)) (hl : L.length ≤ 9223372036854775000) (w : World) (hr : ReadsStr w v L) :
    Calls Tryd.prog 79 #[.slice v L.length cap, .func (.func 80) #[] #[]] w fun e w' => e = .returned (.bool (!L.all keyB)) ∧ Below w.heap.size w w' := by
  have X := Lib.hid (indexBad_any v cap L hl w hr)
  clear hr
  go_enter Tryd.func79, Tryd.ntmps79
  go_wp2_with fail
  go_fit X.out
  rintro e w1 ⟨⟨z, rfl, hz⟩, hb⟩
  have HZ := Lib.hid hz
  have HB := Lib.hid hb
  clear hz hb
  go_wp2_with fail
  go_ret
  exact ⟨by rw [← HZ.out]; rfl, HB.out⟩

set_option maxHeartbeats 1000000 in
theorem validKeys_any (k : Int) (t : Bool) (i : Int) (s : ByteArray) (av kv : Option Addr) (l : List Vl) (ks : List (List UInt8)) (c kc : Nat) (_hn : l.length ≤ 9223372036854775000) (hl : ks.length ≤ 9223372036854775000) (hsz : ∀ x, x ∈ ks → x.length ≤ 140737488351232) (w : World) (hr : ReadsStr w kv ks) :
    Calls Tryd.prog 71 #[.agg #[.int .i64 k, .bool t, .int .i64 i, .string s, .slice av l.length c, .slice kv ks.length kc]] w fun e w' => e = .returned (.bool (keysB l ks)) ∧ Below w.heap.size w w' := by
  have X := Lib.hid (fun w (h : ReadsStr w kv ks) => containsBad_any kv kc ks hl w h)
  have Y := Lib.hid (fun w (h : ReadsStr w kv ks) => idAscending_any kv kc ks hl hsz w h)
  have HR := Lib.hid hr
  clear hr hsz
  by_cases h1 : ks.length = l.length
  · have g1 : ((ks.length : Int) == (l.length : Int)) = true := by rw [h1]; exact beq_self_eq_true _
    have E := Lib.hid (show keysB l ks = (ks.all keyB && ascB ks) by unfold keysB; rw [decide_eq_true h1, Bool.true_and])
    clear h1
    go_enter Tryd.func71, Tryd.ntmps71
    go_wp2_with fail
    go_fit (X.out _ (HR.out.below ((Below.refl _ _).alloc (Nat.le_refl _) _)))
    rintro e w1 ⟨rfl, hb1⟩
    have HB1 := Lib.hid (((Below.refl w.heap.size w).alloc (Nat.le_refl _) (.cells #[.int .i64 k, .bool t, .int .i64 i, .string s, .slice av l.length c, .slice kv ks.length kc] 33)).trans (hb1.mono (by simp)))
    have g2 := (hb1.cell (p := ⟨w.heap.size, 5, none⟩) (by simp)).trans (show _ = some (.slice kv ks.length kc) by simp)
    clear hb1
    cases h2 : ks.all keyB
    · rw [h2] at E
      go_wp2_with fail
      go_ret
      exact ⟨by rw [E.out]; rfl, HB1.out⟩
    · rw [h2] at E
      go_wp2_with fail
      go_fit (Y.out _ (HR.out.below HB1.out))
      rintro e w2 ⟨rfl, hb2⟩
      have HB2 := Lib.hid (HB1.out.trans (hb2.mono HB1.out.size))
      clear hb2
      go_wp2_with fail
      go_ret
      exact ⟨by rw [E.out]; rfl, HB2.out⟩
  · have g1 : ((ks.length : Int) == (l.length : Int)) = false := by rw [beq_eq_false_iff_ne]; omega
    have E := Lib.hid (show keysB l ks = false by unfold keysB; rw [decide_eq_false h1]; rfl)
    clear h1
    go_enter Tryd.func71, Tryd.ntmps71
    go_wp2_with fail
    go_ret
    exact ⟨by rw [E.out]; rfl, by repeat (first | exact Below.refl _ _ | refine Below.setCell ?_ (by simp <;> omega) _ | refine Below.alloc ?_ (by simp <;> omega) _)⟩
end Go.Proofs.YtabopneehhnhfabDoor
