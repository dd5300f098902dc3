/- The contract of octets.Fields. -/
import Derived.Test.YtfnjemocekgncaaPrsD
namespace Go.Proofs.Ytfnjemocekgncaa
open Go.RowKit Go.Lib

/-- The error and the fields of which l is the record. -/
def pTop (l : List UInt8) : Nat × List Fd := if (pFields (pField 128) l).1 ≠ 0 then ((pFields (pField 128) l).1, []) else if (pFields (pField 128) l).2.2.length ≠ 0 then (5, []) else (0, (pFields (pField 128) l).2.1)
/-- What Fields and the document's Fields leave. -/
def TopPost (w : World) (p : Nat × List Fd) (e : Ending) (w' : World) : Prop := ∃ a c, e = .returned (.tuple #[.slice a p.2.length c, .int .i64 (p.1 : Nat)]) ∧ Below w.heap.size w w' ∧ ReadsF 128 w' a p.2 ∧ p.2.length ≤ 1099511627776

theorem But.toBelow {w w1 w' : World} (h : But w.heap.size w1 w') (hw : Below w.heap.size w w1) : Below w.heap.size w w' :=
  ⟨h.os.trans hw.os, h.tape.trans hw.tape, h.output.trans hw.output, Nat.le_trans hw.size h.size, fun k hk => (h.block k (Nat.lt_of_lt_of_le hk hw.size) (by intro e; injection e with e; omega)).trans (hw.block k hk)⟩

theorem fields_entry (v : Option Addr) (cap : Nat) (l : List UInt8) (hlen : l.length ≤ cap) (hcap : cap ≤ 9223372036854775807) (hl : l.length ≤ 1099511627776) (w : World) (hr : ReadsBytes w v l) :
    Calls Try.prog 37 #[.pointer (some ⟨w.heap.size, 0, none⟩), .int .i64 1] (w.alloc (.cells #[.slice v l.length cap] 69)) (FieldsPost w.heap.size 128 (w.alloc (.cells #[.slice v l.length cap] 69)) (pFields (pField 128) l)) := by
  have hr2 : ReadsBytes (w.alloc (.cells #[.slice v l.length cap] 69)) v l := hr.below ((Below.refl _ _).alloc (Nat.le_refl _) _)
  cases l with
  | nil => exact fields_bad0 128 _ [] _ 1 v cap (by simp) (by simp [World.cell?_alloc_new]) hr2 (by decide)
  | cons k l =>
    refine FieldsOk_all 128 _ (k :: l) _ 1 (by omega) (by omega) hl ⟨v, cap, by simp [World.cell?_alloc_new], by simp [go_sem], by simp, hlen, hcap, hr2, ?_⟩
    obtain ⟨b, off, rfl, hlt, _⟩ := hr 0 (by simp)
    intro b' off' e
    injection e with e; injection e with e1 _ _
    omega

set_option maxHeartbeats 4000000 in
set_option maxRecDepth 100000 in
theorem Fields_any (v : Option Addr) (cap : Nat) (l : List UInt8) (hlen : l.length ≤ cap) (hcap : cap ≤ 9223372036854775807) (hl : l.length ≤ 1099511627776) (w : World) (hr : ReadsBytes w v l) :
    Calls Try.prog 27 #[.slice v l.length cap] w (TopPost w (pTop l)) := by
  have HE := Lib.hid (fields_entry v cap l hlen hcap hl w hr)
  obtain ⟨q, hq⟩ : ∃ q, q = pTop l := ⟨_, rfl⟩
  rw [← hq]
  unfold pTop at hq
  obtain ⟨p, hp⟩ : ∃ p, p = pFields (pField 128) l := ⟨_, rfl⟩
  rw [← hp] at HE hq
  have HQ := Lib.hid hq
  clear hq hp
  go_enter Try.func27, Try.ntmps27
  go_wp2_with fail
  go_fit (HE.out)
  rintro e w1 ⟨a, c, rfl, hbut, hok⟩
  have HB := Lib.hid (hbut.toBelow ((Below.refl _ _).alloc (Nat.le_refl _) _))
  have HOK := Lib.hid hok
  clear hbut hok
  by_cases he : p.1 = 0
  · obtain ⟨h1, h2, a2, c2, r3, r4, r5, r6, r7, r8, r9⟩ := HOK.out he
    have u1 : ((p.1 : Int) != 0) = false := by rw [bne_eq_false_iff_eq]; omega
    have H2 := Lib.hid h2.toF
    clear h2 HOK r8 r9 r4
    by_cases hz : p.2.2.length = 0
    · have HF := Lib.hid (show q = (0, p.2.1) by rw [HQ.out, if_neg (by omega), if_neg (by omega)])
      rw [hz] at r3
      clear HQ he
      go_wp2_with fail
      go_ret2
      rw [HF.out]
      exact ⟨a, c, rfl, HB.out, H2.out, h1⟩
    · have HF := Lib.hid (show q = (5, []) by rw [HQ.out, if_neg (by omega), if_pos hz])
      have hpos : 0 < p.2.2.length := by omega
      clear HQ he hz
      go_wp2_with fail
      go_ret2
      rw [HF.out]
      exact ⟨none, 0, rfl, HB.out, (ReadsS.nil (fun _ => True) _ _ _).toF, by simp⟩
  · have u1 : ((p.1 : Int) != 0) = true := by rw [bne_iff_ne]; omega
    have HF := Lib.hid (show q = (p.1, []) by rw [HQ.out, if_pos he])
    clear HQ he HOK
    go_wp2_with fail
    go_ret2
    rw [HF.out]
    exact ⟨none, 0, rfl, HB.out, (ReadsS.nil (fun _ => True) _ _ _).toF, by simp⟩
end Go.Proofs.Ytfnjemocekgncaa
