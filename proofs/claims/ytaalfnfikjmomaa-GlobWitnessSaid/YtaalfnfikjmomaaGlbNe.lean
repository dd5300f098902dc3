/- Contract of the program's Match (glob). -/
import Derived.Test.YtaalfnfikjmomaaGlbNd
namespace Go.Proofs.Ytaalfnfikjmomaa
open Go.RowKit Go.Lib
set_option maxHeartbeats 4000000 in
theorem match_any (p s : ByteArray) (hs : s.size ≤ 1099511627776) (w : World) :
    Calls Try.prog 13 #[.string p, .string s] w fun e w' => e = .returned (.bool (matchP p.data.toList s.data.toList)) ∧ Below w.heap.size w w' := by
  have P := Lib.hid (parse_any p w)
  cases he : parseP p.data.toList with
  | none =>
    have HV := Lib.hid (show matchP p.data.toList s.data.toList = false by unfold matchP; rw [he])
    have PP := Lib.hid (fun (e : Ending) (w' : World) (h : ParsePost p.data.toList w e w') => show Below w.heap.size w w' ∧ ∃ n : Nat, (n = 3 ∨ n = 5) ∧ e = .returned (.tuple #[.slice none 0 0, .int .i64 n]) from by
      obtain ⟨hb, h⟩ := h
      rw [he] at h
      refine ⟨hb, _, ?_, h⟩
      unfold parseP at he
      unfold validP
      split
      · exact .inl rfl
      · rename_i h0
        rw [if_neg h0] at he
        rw [he]
        exact .inr rfl)
    clear he hs
    go_enter Try.func13, Try.ntmps13
    go_wp2_with fail
    go_fit P.out
    intro e w1 h
    obtain ⟨hb, n, hn, rfl⟩ := PP.out _ _ h
    have B := Lib.hid hb
    clear h hb
    rcases hn with rfl | rfl
    all_goals
      go_wp2_with fail
      go_ret
      exact ⟨by rw [HV.out]; rfl, B.out⟩
  | some L =>
    have HV := Lib.hid (show matchP p.data.toList s.data.toList = gmB L s.data.toList by unfold matchP; rw [he])
    have PP := Lib.hid (fun (e : Ending) (w' : World) (h : ParsePost p.data.toList w e w') => show Below w.heap.size w w' ∧ ∃ (a : Option Addr) (c : Nat), e = .returned (.tuple #[.slice a L.length c, .int .i64 0]) ∧ L.length ≤ 4096 ∧ ReadsP w' a L from by
      obtain ⟨hb, h⟩ := h
      rw [he] at h
      obtain ⟨a, c, h1, _, _, h2, h3⟩ := h
      exact ⟨hb, a, c, h1, h2, h3⟩)
    have HS := Lib.hid hs
    clear he hs
    go_enter Try.func13, Try.ntmps13
    go_wp2_with fail
    go_fit P.out
    intro e w1 h
    obtain ⟨hb, a, c, rfl, hL, hr⟩ := PP.out _ _ h
    have B := Lib.hid hb
    have NM := Lib.hid (newMachine_any a c L hL w1 hr)
    have HL := Lib.hid hL
    clear h hb hL hr
    go_wp2_with fail
    go_fit NM.out
    rintro e w2 ⟨v, c2, rfl, hm, hb2⟩
    have MT := Lib.hid (matches_any v c2 (machR noS L) s HS.out (List.length_pos_iff.2 (machR_ne L noS)) (by have := machR_len L noS; have := HL.out; omega) w2 hm)
    have B2 := Lib.hid hb2
    clear hm hb2
    go_wp2_with fail
    go_fit MT.out
    rintro e w3 ⟨⟨b, rfl, hbb⟩, hb3⟩
    have HB := Lib.hid (show gmB L s.data.toList = b from gmB_eq (by rw [← mach_gm]; exact hbb.symm))
    have B3 := Lib.hid hb3
    clear hbb hb3
    go_wp2_with fail
    go_ret
    exact ⟨by rw [HV.out, HB.out]; rfl, (B.out.trans (B2.out.mono B.out.size)).trans (B3.out.mono (Nat.le_trans B.out.size B2.out.size))⟩
end Go.Proofs.Ytaalfnfikjmomaa
