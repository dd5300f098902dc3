/- Contracts of the document's check and Valid of values, whole. -/
import Derived.Test.YtabopneehhnhfabDoorValL
namespace Go.Proofs.YtabopneehhnhfabDoor
open Go.RowKit Go.Lib

theorem chk_all : ∀ n : Nat, n ≤ 16 → ChkV n
  | 0, _ => chk_zero
  | n + 1, h => by
    intro lev m V x w hlev hV
    obtain ⟨k, t, i, s, l, ks, av, c, kv, kc, rfl, rfl, g0, g1, g2, g3, g4, g5, g6, g7, g8, g9, hs, hl⟩ := hV
    rw [errV_eq]
    by_cases h0 : partE (n + 1) k t i s l ks = 0
    · rw [if_neg (by rw [h0]; simp)]
      by_cases hl0 : l = []
      · subst hl0
        exact chk_none n lev (by omega) k t i s av kv ks c kc h0 (by omega) g9 w hs
      · exact chk_some n (by omega) (Lib.hid (chk_all n (by omega))) lev (by omega) m k t i s av kv l ks c kc hl0 h0 (by omega) (by omega) g9 w hs hl
    · rw [if_pos h0]
      exact chk_part n lev (by omega) k t i s av kv l ks c kc h0 (by omega) g9 w hs
/-- The document's Valid. -/
theorem refValidV_any (m : Nat) (V : Value) (x : Vl) (w : World) (hV : IsV m w V x) :
    Calls Tryd.prog 25 #[V] w fun e w' => e = .returned (.int .i64 (errV 16 x : Nat)) ∧ Below w.heap.size w w' := by
  have M := Lib.hid (fun w (h : IsV m w V x) => chk_all 16 (by omega) 1 m V x w (by omega) h)
  have HV := Lib.hid hV
  obtain ⟨k, t, i, s, l, ks, av, c, kv, kc, rfl, rfl, _⟩ := hV
  go_enter Tryd.func25, Tryd.ntmps25
  go_wp2_with fail
  go_fit (M.out _ (HV.out.below ((Below.refl _ _).alloc (Nat.le_refl _) _)))
  rintro e w1 ⟨rfl, hb⟩
  have B := Lib.hid (((Below.refl w.heap.size w).alloc (Nat.le_refl _) _).trans (hb.mono (by simp)))
  clear hb
  go_wp2_with fail
  go_ret
  exact ⟨rfl, B.out⟩
end Go.Proofs.YtabopneehhnhfabDoor
