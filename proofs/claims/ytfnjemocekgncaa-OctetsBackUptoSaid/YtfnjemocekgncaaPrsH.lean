/- The contracts of the document's Fields and Same (octets). -/
import Derived.Test.YtfnjemocekgncaaPrsG
import Derived.BigQuiet
import Derived.WalkSmall
import Derived.Deep.QuietTactic
import Derived.Deep.DeepCutAuto
import Derived.Deep.CutBlock
namespace Go.Proofs.Ytfnjemocekgncaa
open Go.RowKit Go.Lib

set_option maxHeartbeats 4000000 in
set_option maxRecDepth 100000 in
theorem refFields_any (v : Option Addr) (cap : Nat) (l : List UInt8) (hlen : l.length ≤ cap) (hcap : cap ≤ 9223372036854775807) (hl : l.length ≤ 1099511627776) (w : World) (hr : ReadsBytes w v l) :
    Calls Try.prog 28 #[.slice v l.length cap] w (TopPost w (pTop l)) := by
  have hL := ListOk_all 128 v cap l 0 w 1 (by omega) (by omega) (by omega) ⟨hlen, hcap, hl, hr⟩
  rw [List.drop_zero] at hL
  have HE := Lib.hid (show Calls Try.prog 38 #[.slice v l.length cap, .int .i64 0, .int .i64 1] w _ from hL)
  obtain ⟨q, hq⟩ : ∃ q, q = pTop l := ⟨_, rfl⟩
  rw [← hq]
  unfold pTop at hq
  obtain ⟨p, hp⟩ : ∃ p, p = pFields (pField 128) l := ⟨_, rfl⟩
  rw [← hp] at HE hq
  have HQ := Lib.hid hq
  clear hq hp hL hr
  go_enter Try.func28, Try.ntmps28
  go_wp2_with fail
  go_fit (HE.out)
  rintro e w1 ⟨a, c, z, rfl, hb, hok⟩
  have HB := Lib.hid hb
  have HOK := Lib.hid hok
  clear hb hok
  by_cases he : p.1 = 0
  · obtain ⟨h1, h2, en, rfl, h3, h4⟩ := HOK.out he
    have h5 := congrArg List.length h4
    rw [List.length_drop] at h5
    have u1 : ((p.1 : Int) != 0) = false := by rw [bne_eq_false_iff_eq]; omega
    have H2 := Lib.hid h2.toF
    have H5 := Lib.hid h5
    clear h2 HOK h4 h5
    by_cases hz : p.2.2.length = 0
    · have HF := Lib.hid (show q = (0, p.2.1) by rw [HQ.out, if_neg (by omega), if_neg (by omega)])
      have hen : l.length ≤ en := by have := H5.out; omega
      clear HQ he hz
      go_wp2_with fail
      go_ret2
      rw [HF.out]
      exact ⟨a, c, rfl, HB.out, H2.out, h1⟩
    · have HF := Lib.hid (show q = (5, []) by rw [HQ.out, if_neg (by omega), if_pos hz])
      have hen : en < l.length := by have := H5.out; omega
      clear HQ he hz
      go_wp2_with fail
      go_ret2
      rw [HF.out]
      exact ⟨none, 0, rfl, HB.out, (ReadsS.nil (fun _ => True) _ _ _).toF, by simp⟩
  · have u1 : ((p.1 : Int) != 0) = true := by rw [bne_iff_ne]; omega
    have HF := Lib.hid (show q = (p.1, []) by rw [HQ.out, if_pos he])
    clear HQ he HOK
    go_wp2_with fail
    go_ret2
    rw [HF.out]
    exact ⟨none, 0, rfl, HB.out, (ReadsS.nil (fun _ => True) _ _ _).toF, by simp⟩

theorem ReadsF.drewN {m : Nat} {w : World} {v : Option Addr} {l : List Fd} (h : ReadsF m w v l) (n : Nat) : ReadsF m (w.drewN n) v l := ReadsF.below (below_drewN (Below.refl _ _) n) m v l h
def SameOk (m : Nat) : Prop := ∀ (v1 v2 : Option Addr) (c1 c2 : Nat) (l : List Fd) (w : World), l.length ≤ 9223372036854775807 → ReadsF m w v1 l → ReadsF m w v2 l →
  Calls Try.prog 29 #[.slice v1 l.length c1, .slice v2 l.length c2] w fun e w' => e = .returned (.bool true) ∧ ∃ n, w' = w.drewN n

set_option maxHeartbeats 4000000 in
set_option maxRecDepth 100000 in
theorem Same_of (m : Nat) (ih : Hid (∀ m', m = m' + 1 → SameOk m')) : SameOk m := by
  intro v1 v2 c1 c2 l w hlen h1 h2
  have H1 := Lib.hid h1
  have H2 := Lib.hid h2
  clear h1 h2
  go_enter Try.func29, Try.ntmps29
  go_wp2_with fail
  go_loopw [5] (fun s5 wr => ∃ j : Nat, j ≤ l.length ∧ s5 = .int .i64 j ∧ ∃ n, wr = w.drewN n) (fun s5 _ => l.length - (RowKit.intOf s5).toNat)
  case atStart => exact ⟨0, by omega, rfl, 0, rfl⟩
  case round =>
    obtain ⟨j, hj, rfl, n0, hwr⟩ := hrel
    by_cases hlt : j < l.length
    · cases m with
      | zero => exact absurd hlt (by have h : l = [] := H1.out; rw [h]; simp)
      | succ m =>
        have r1 := H1.out.drewN n0
        have r2 := H2.out.drewN n0
        rw [← hwr] at r1 r2
        obtain ⟨b, off, k, i, s, av, c, l', e0, rfl, g2, g3, g4, g5, g6, g7, g8, g9, g10, g11, g12⟩ := r1 j hlt
        obtain ⟨b', off', k', i', s', av', c', l'', e0', rfl, f2, f3, f4, f5, f6, f7, f8, f9, f10, f11, f12⟩ := r2 j hlt
        rw [e0] at e0'
        injection e0' with e0'
        injection e0' with e1 e2 e3 e4
        subst e1 e2 e3 e4
        have IH := Lib.hid (fun n => ih.out m rfl av av' c c' l' (wr.drewN n) g11 (g12.drewN n) (f12.drewN n))
        have HW := Lib.hid hwr
        have a1 : (k != k) = false := by simp
        have a2 : (i != i) = false := by simp
        have j0 : (0 : Int) ≤ (j : Int) := by omega
        have j1 : (j : Int) < (l.length : Int) := by omega
        clear hwr e0 g7 g8 g9 g10 g12 f7 f8 f9 f10 f12 r1 r2
        go_upto_region 6 with fail
        go_quiet ((go_at_call 29; exact Calls.quiet_of (IH.out _)))
        go_wp2_with fail
        exact ⟨⟨j + 1, by omega, by go_num, n0 + _, by rw [HW.out, World.drewN_drewN]⟩, by simp [RowKit.intOf]; omega⟩
    · have HW := Lib.hid hwr
      clear hwr
      go_wp2_with fail
      go_ret
      exact ⟨rfl, n0, HW.out⟩

theorem Same_any : ∀ m : Nat, SameOk m
  | 0 => Same_of 0 (Lib.hid (fun m' h => by omega))
  | m + 1 => Same_of (m + 1) (Lib.hid (fun m' h => (Nat.succ.inj h) ▸ Same_any m))
end Go.Proofs.Ytfnjemocekgncaa
