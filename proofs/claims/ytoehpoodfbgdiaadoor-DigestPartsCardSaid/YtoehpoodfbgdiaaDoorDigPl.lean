/- Contract of the program's Of (digest): it computes what the document's does. -/
import Derived.Test.YtoehpoodfbgdiaaDoorDigPk
namespace Go.Proofs.YtoehpoodfbgdiaaDoor
open Go.RowKit Go.Lib

set_option maxHeartbeats 4000000 in
set_option maxRecDepth 100000 in
theorem digOf_any (s : ByteArray) (v : Option Addr) (cap : Nat) (ps : List Nat) (hs : s.size ≤ 1099511627776) (hp : ps.length ≤ 1099511627776) (w : World) (hr : ReadsU w v ps) :
    Calls Tryd.prog 15 #[.string s, .slice v ps.length cap] w fun e w' => e = .returned (.int .u64 (sumN (ofBytes s ps) : Nat)) ∧ Below w.heap.size w w' := by
  obtain ⟨i0, hi, hz0, hz1, hz2⟩ := info_parts info8
  have HR := Lib.hid hr
  have hcv := Lib.run_convert_string_bytes (P := Tryd.prog) w 9 27 5 s (u := .string) Tryd.underlying9 Tryd.underlying27 Tryd.underlying5
  have HO := Lib.hid (OwnsZ.conv w s (by unfold maxLen; omega))
  have HB := Lib.hid (below_conv w s)
  have elen : s.data.toList.length = s.size := by rw [Array.length_toList]; rfl
  obtain ⟨w1, hw1⟩ : ∃ w1, w1 = Lib.bytesWorld w 5 s := ⟨_, rfl⟩
  obtain ⟨gc, hgc⟩ : ∃ gc, gc = grownCap w s.size 0 5 := ⟨_, rfl⟩
  rw [← hw1, ← hgc] at hcv HO
  rw [← hw1] at HB
  have hz1' := HB.out.size
  clear hr hw1 hgc
  go_enter Tryd.func15, Tryd.ntmps15
  go_wp2_with (at_builtin; refine wpList_append_byte _ rfl _ _ rfl w.heap.size rfl (HO.out.alloc _) i0 hi hz0 hz1 hz2 ⟨w1.heap.size, 0, none⟩ 1 0 rfl (by decide) ?c1 ?c2 ?c3 ?_)
  case c1 => simp
  case c2 => omega
  case c3 => simp; omega
  intro v1 w2 ho2 hb2
  have HO2 := Lib.hid ho2
  have HB2 := Lib.hid (HB.out.trans ((Below.alloc (Below.refl _ w1) hz1' (Obj.cells #[.int .u8 0] 5)).trans hb2))
  clear ho2 hb2 HO
  go_wp2_with fail
  have hpl : (s.data.toList ++ [0]).length = s.size + 1 := by rw [List.length_append, Array.length_toList]; rfl
  obtain ⟨pre, hpre⟩ : ∃ pre, pre = s.data.toList ++ [0] := ⟨_, rfl⟩
  have HF := Lib.hid (show ofBytes s ps = pre ++ ps.flatMap (leB 8) by rw [hpre]; rfl)
  rw [← hpre] at HO2 hpl
  clear hpre elen hcv
  have HFL := Lib.hid (fun j (hj : j ≤ ps.length) => show ((ps.take j).flatMap (leB 8)).length = 8 * j by
    have h1 := ofBytes_len ⟨#[]⟩ (ps.take j)
    have e : (ofBytes ⟨#[]⟩ (ps.take j)).length = 1 + ((ps.take j).flatMap (leB 8)).length := by simp [ofBytes]; omega
    rw [e, List.length_take] at h1
    have e2 : (⟨#[]⟩ : ByteArray).size = 0 := rfl
    rw [e2] at h1
    omega)
  go_loopw [5, 14] (fun s5 s14 wr => ∃ j : Nat, j ≤ ps.length ∧ s14 = .int .i64 (j : Int) ∧ OwnsZ wr w.heap.size s5 (pre ++ (ps.take j).flatMap (leB 8)) ∧ Below w.heap.size w wr) (fun _ s14 _ => ps.length - (RowKit.intOf s14).toNat)
  case atStart => exact ⟨0, by omega, rfl, by simpa using HO2.out, HB2.out⟩
  case round =>
    obtain ⟨j, hj, rfl, hown, hbel⟩ := hrel
    have hzo := hbel.size
    have HB3 := Lib.hid hbel
    have HO3 := Lib.hid hown
    clear hown hbel HO2 HB2
    by_cases hlt : j < ps.length
    · obtain ⟨b, off, rfl, hb, hc, hu⟩ := HR.out.below HB3.out j hlt
      have hft := flat_takeN (leB 8) ps j hlt
      obtain ⟨q, hq⟩ : ∃ q, q = ps[j] := ⟨_, rfl⟩
      rw [← hq] at hc hu hft
      have hdl : (pre ++ (ps.take j).flatMap (leB 8)).length = s.size + 1 + 8 * j := by rw [List.length_append, hpl, HFL.out j hj]
      obtain ⟨d, hd⟩ : ∃ d, d = pre ++ (ps.take j).flatMap (leB 8) := ⟨_, rfl⟩
      have HN := Lib.hid (show pre ++ (ps.take (j + 1)).flatMap (leB 8) = d ++ leB 8 q by rw [hft, hd, List.append_assoc])
      rw [← hd] at HO3 hdl
      have G := Lib.hid (appendGroup_any w.heap.size _ d q hu (by omega) _ hzo HO3.out)
      clear hq hft hd hdl hu
      go_wp2_with fail
      go_fit (G.out)
      rintro e w4 ⟨v4, rfl, ho4, hb4⟩
      have HO4 := Lib.hid ho4
      have HB4 := Lib.hid (HB3.out.trans hb4)
      clear ho4 hb4
      go_wp2_with fail
      go_roundw
      case rel => exact ⟨j + 1, by omega, by go_num, by rw [HN.out]; exact HO4.out, HB4.out⟩
      case measure => simp [RowKit.intOf]; omega
    · obtain rfl : j = ps.length := by omega
      have HE := Lib.hid (show pre ++ (ps.take ps.length).flatMap (leB 8) = ofBytes s ps by rw [List.take_length, HF.out])
      rw [HE.out] at HO3
      obtain ⟨a1, c1, rfl, hlc1, hr1⟩ := HO3.out.reads
      have hol := ofBytes_len s ps
      have T := Lib.hid (digSum_any a1 c1 (ofBytes s ps) hlc1 (by omega) _ hr1)
      clear hr1 hol hlc1
      go_wp2_with fail
      go_fit (T.out)
      rintro e w5 ⟨rfl, hb5⟩
      have HB5 := Lib.hid (HB3.out.trans (hb5.mono hzo))
      clear hb5
      go_wp2_with fail
      go_ret
      exact ⟨rfl, HB5.out⟩
end Go.Proofs.YtoehpoodfbgdiaaDoor
