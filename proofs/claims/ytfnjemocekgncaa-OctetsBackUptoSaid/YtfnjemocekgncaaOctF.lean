/- Contract of the document's TakeString. -/
import Derived.Test.YtfnjemocekgncaaOctE
namespace Go.Proofs.Ytfnjemocekgncaa
open Go.RowKit Go.Lib

set_option maxHeartbeats 4000000 in
set_option maxRecDepth 100000 in
theorem refTakeString_any (v : Option Addr) (cap : Nat) (l : List UInt8) (hlen : l.length ≤ cap) (hcap : cap ≤ 9223372036854775807) (w : World) (hr : ReadsBytes w v l) :
    Calls Try.prog 20 #[.slice v l.length cap] w fun e w' => e = .returned (.tuple #[.string ⟨(takeS l).1.toArray⟩, .int .i64 (takeS l).2.1, .int .i64 (takeS l).2.2]) ∧ w = w' := by
  have hT := refTakeUint_any v cap l (by omega) w hr
  obtain ⟨h1, h2, h3⟩ := take_facts l
  have h4 := take_some l
  obtain ⟨s, hs⟩ : ∃ s, s = takeS l := ⟨_, rfl⟩
  rw [← hs]
  unfold takeS at hs
  obtain ⟨⟨u, k, e⟩, ht⟩ : ∃ t, t = take l := ⟨_, rfl⟩
  rw [← ht] at hT h1 h2 h3 h4 hs
  simp only at hT h1 h2 h3 h4 hs
  have HS := Lib.hid hs
  have HT := Lib.hid hT
  have HR := Lib.hid hr
  clear hT hr ht hs
  by_cases he : e = 0
  · have u1 : ((e : Int) != 0) = false := by rw [bne_eq_false_iff_eq]; omega
    have hl0 := h4 he
    have HE := Lib.hid he
    have b1 : (0 : Int) ≤ u ∧ (u : Int) ≤ 18446744073709551615 := by omega
    obtain ⟨b, off, hv, hb, hcell0⟩ := HR.out 0 hl0
    clear hcell0
    subst hv
    have h3' : (0 : Int) ≤ k ∧ (k : Int) ≤ l.length := by omega
    by_cases hu : l.length - k < u
    · have E := Lib.hid (show s = ([], 0, 4) by rw [HS.out, if_neg (by omega), if_pos hu])
      have u2 : decide (((l.length - k : Nat) : Int) < (u : Int)) = true := by simp; omega
      clear HS he h1 h2 h4 hl0
      go_enter Try.func20, Try.ntmps20
      go_wp2_with fail
      go_fit (HT.out)
      rintro e w1 ⟨rfl, rfl⟩
      go_wp2_with fail
      all_goals
        go_ret3
        exact ⟨ret3_sii (by rw [E.out]) (by rw [E.out]; rfl) (by rw [E.out]; rfl), rfl⟩
    · have E := Lib.hid (show s = ((l.drop k).take u, k + u, 0) by rw [HS.out, if_neg (by omega), if_neg hu])
      have hlu : ((l.drop k).take u).length = u := by rw [List.length_take, List.length_drop]; omega
      have cv := fun c => conv_str (some ⟨b, off + k, none⟩) ((l.drop k).take u) w (HR.out.drop k u) c
      rw [hlu] at cv
      have hu' : (u : Int) ≤ l.length - k := by omega
      by_cases hck : cap = k
      · have hu0 : u = 0 := by omega
        have cv0 : ∀ c, (convert 23 9 (.slice (some ⟨b, off, none⟩) 0 c)).run Try.prog w = .ok (.string ⟨#[]⟩) w := fun c => conv_str (some ⟨b, off, none⟩) [] w (fun k hk => by simp at hk) c
        have EL := Lib.hid (show (l.drop k).take u = [] by rw [hu0, List.take_zero])
        obtain rfl : k = l.length := by omega
        obtain rfl : cap = l.length := by omega
        subst hu0
        clear HS he h1 h2 h4 hl0 cv hlu b1 hu' hu hck h3' hlen h3
        go_enter Try.func20, Try.ntmps20
        go_wp2_with fail
        go_fit (HT.out)
        rintro e w1 ⟨rfl, rfl⟩
        go_wp2_with fail
        all_goals
          go_ret3
          exact ⟨ret3_sii (by rw [E.out, EL.out]) (by rw [E.out]; rfl) (by rw [E.out]; rfl), rfl⟩
      · clear HS he h1 h2 h4 hl0
        go_enter Try.func20, Try.ntmps20
        go_wp2_with fail
        go_fit (HT.out)
        rintro e w1 ⟨rfl, rfl⟩
        go_wp2_with fail
        go_ret3
        exact ⟨ret3_sii (by rw [E.out]) (by rw [E.out]; exact tk_sum _ _) (by rw [E.out]; rfl), rfl⟩
  · have u1 : ((e : Int) != 0) = true := by rw [bne_iff_ne]; omega
    have E := Lib.hid (show s = ([], 0, e) by rw [HS.out, if_pos he])
    clear HS he h1 h2 h3
    go_enter Try.func20, Try.ntmps20
    go_wp2_with fail
    go_fit (HT.out)
    rintro e w1 ⟨rfl, rfl⟩
    go_wp2_with fail
    go_ret3
    exact ⟨ret3_sii (by rw [E.out]) (by rw [E.out]; rfl) (by rw [E.out]), rfl⟩
end Go.Proofs.Ytfnjemocekgncaa
