/- The contracts of Satisfies's closure and of Satisfies (label). -/
import Derived.Test.YtglckcenjnieaaaGreatDoorLaJ
import Derived.Test.YtglckcenjnieaaaGreatDoorLaR
namespace Go.Proofs.YtglckcenjnieaaaGreatDoor
open Go.RowKit Go.Lib Go.Maps

/-- Is one of these states within the bounds, or is there none and none is asked for? -/
def inclB (lo hi : Int) (zs : List Int) : Bool := if zs = [] then lo == -2 else zs.any fun x => decide (lo ≤ x) && decide (x ≤ hi)
/-- What Satisfies's closure answers: is this requirement not satisfied? -/
def satF (T : List UInt8 → List Int) (x : List UInt8) : Bool :=
  match needP x with
  | none => true
  | some (a, lo, hi) => !(inclB lo hi (T a))
/-- What the closure's last line stands on. -/
structure SatH (w w' : World) (b p B K n : Nat) (lo hi : Int) (G : Rows') (T : List UInt8 → List Int) : Prop where
  two : TwoL w' b 40 (.int .i64 lo) (.int .i64 hi)
  cell : w'.cell? ⟨p, 0, none⟩ = some (.map (some K))
  lt : p < w'.heap.size
  sp : StM B w' K n G T
  bel : Below w.heap.size w w'
theorem SatH.below {w w1 w2 : World} {b p B K n : Nat} {lo hi : Int} {G : Rows'} {T : List UInt8 → List Int} (h : SatH w w1 b p B K n lo hi G T) (hb : Below w1.heap.size w1 w2) : SatH w w2 b p B K n lo hi G T :=
  ⟨h.two.below hb, (hb.cell (p := ⟨p, 0, none⟩) h.lt).trans h.cell, Nat.lt_of_lt_of_le h.lt hb.size, h.sp.kept hb, h.bel.trans (hb.mono h.bel.size)⟩
theorem srow_cells {B : Nat} {w : World} {K n : Nat} {G : Rows'} {T : List UInt8 → List Int} (h : StM B w K n G T) {l : List UInt8} {g c : Nat} (hG : G l = some (g, (T l).length, c)) : g < w.heap.size ∧ 0 < (T l).length ∧ ∀ j (hj : j < (T l).length), w.cell? ⟨g, j, none⟩ = some (.int .i64 (T l)[j]) := by
  obtain ⟨_, h2, ho, _⟩ := h.row l g _ c hG
  refine ⟨(ho.lt g rfl).2, h2, fun j hj => ?_⟩
  have := ho.cellAt j (by simpa [icells] using hj)
  simpa [icells, List.getElem?_eq_getElem hj] using this
set_option maxHeartbeats 2000000 in
theorem satClosure_any (B K n p : Nat) (G : Rows') (T : List UInt8 → List Int) (hs : ∀ l, (T l).Pairwise (· ≤ ·)) (hl : ∀ l, (T l).length ≤ 1000) (x : List UInt8) (hx : x.length ≤ 1048576) (w : World) (hT : TabK w) (hm : StM B w K n G T) (hp : w.cell? ⟨p, 0, none⟩ = some (.map (some K))) :
    Calls Tryz.prog 31 #[.string ⟨x.toArray⟩, .pointer (some ⟨p, 0, none⟩)] w fun e w' => e = .returned (.bool (satF T x)) ∧ Below w.heap.size w w' := by
  have PN := Lib.hid (parseNeed_any ⟨x.toArray⟩ (by show x.toArray.size ≤ _; simpa using hx) w hT)
  have HM := Lib.hid hm
  have HPc := Lib.hid hp
  have hpl := cell_ltK hp
  have HS := Lib.hid hs
  have HL := Lib.hid hl
  clear hT hm hp hs hl
  go_enter Tryz.func31, Tryz.ntmps31
  go_wp2_with fail
  go_fit (PN.out)
  rintro e w2 ⟨nm, lo, hi, ok, rfl, hR, hb⟩
  rw [show (⟨x.toArray⟩ : ByteArray).data.toList = x by simp] at hR
  have B2 := Lib.hid hb
  have z2 := hb.size
  have hpc := (hb.cell (p := ⟨p, 0, none⟩) hpl).trans HPc.out
  have HM2 := Lib.hid (HM.out.kept hb)
  clear hb
  cases hN : needP x with
  | none =>
    rw [hN] at hR
    obtain rfl : ok = false := hR
    have HN := Lib.hid (show satF T x = true by unfold satF; rw [hN])
    clear hN
    go_wp2_with fail
    go_ret
    exact ⟨ret_bool HN.out.symm, B2.out.alloc z2 _⟩
  | some q =>
    obtain ⟨a, lo', hi'⟩ := q
    rw [hN] at hR
    obtain ⟨rfl, rfl, rfl, rfl⟩ := hR
    have HN := Lib.hid (show satF T x = !(inclB lo hi (T a)) by unfold satF; rw [hN])
    have hal := need_len hN
    clear hN
    obtain ⟨wn, hwn⟩ : ∃ wn, wn = w2.alloc (.cells #[.int .i64 lo, .int .i64 hi] 40) := ⟨_, rfl⟩
    have hbz := (Below.refl w2.heap.size w2).alloc (Nat.le_refl _) (.cells #[.int .i64 lo, .int .i64 hi] 40)
    have hbn := B2.out.alloc z2 (.cells #[.int .i64 lo, .int .i64 hi] 40)
    have hmn := HM2.out.kept hbz
    have hpn := (hbz.cell (p := ⟨p, 0, none⟩) (by show p < w2.heap.size; omega)).trans hpc
    have BN := Lib.hid hbn
    have MN := Lib.hid hmn
    have hsp := HS.out a
    have hle := HL.out a
    clear hbz hbn hpc hwn
    rcases hmn.get a (by omega) with ⟨hG, hTa, hrun⟩ | ⟨g, c, hG, hrun⟩
    · have HI := Lib.hid (show satF T x = !(lo == -2) by rw [HN.out, hTa]; rfl)
      have IN := Lib.hid (fun w' => incl_nil lo hi none 0 w')
      clear hmn hG hTa hsp hle
      go_wp2_with fail
      go_fit (IN.out _)
      rintro e w3 ⟨rfl, hb⟩
      have B3 := Lib.hid (BN.out.trans (hb.mono BN.out.size))
      clear hb
      go_wp2_with fail
      go_ret
      exact ⟨ret_bool HI.out.symm, B3.out⟩
    · obtain ⟨hgl, h0, hcs⟩ := srow_cells hmn hG
      have IN := Lib.hid (incl_row lo hi g c (T a) h0 (by omega) hsp _ hgl hcs)
      have HI := Lib.hid (show satF T x = !((T a).any fun x => decide (lo ≤ x) && decide (x ≤ hi)) by
        rw [HN.out]
        unfold inclB
        rw [if_neg (by intro e; rw [e] at h0; simp at h0)])
      clear hmn hG hsp hcs hgl h0
      generalize T a = zs at *
      generalize (zs.any fun x => decide (lo ≤ x) && decide (x ≤ hi)) = f at *
      go_wp2_with fail
      go_fit IN.out
      rintro e w3 ⟨rfl, hb⟩
      have B3 := Lib.hid (BN.out.trans (hb.mono BN.out.size))
      clear hb
      go_wp2_with fail
      go_ret
      exact ⟨ret_bool HI.out.symm, B3.out⟩

/-- What Satisfies answers. -/
def satB (L M : List (List UInt8)) : Bool := !(M.any (satF fun l => srt (stL L l)))
set_option maxHeartbeats 2000000 in
theorem satisfies_any (v v2 : Option Addr) (cap cap2 : Nat) (L M : List (List UInt8)) (hlen : L.length ≤ 1000) (hx : ∀ x ∈ L, x.length ≤ 1048576) (hlen2 : M.length ≤ 1000) (hx2 : ∀ x ∈ M, x.length ≤ 1048576) (w : World) (hT : TabK w) (hr : ReadsStr w v L) (hr2 : ReadsStr w v2 M) :
    Calls Tryz.prog 16 #[.slice v L.length cap, .slice v2 M.length cap2] w fun e w' => e = .returned (.bool (satB L M)) ∧ Below w.heap.size w w' := by
  have P := Lib.hid (fun w' hT' hr' => statesOf_any v cap L hlen hx w' hT' hr')
  have HT := Lib.hid hT
  have HR := Lib.hid hr
  have HR2 := Lib.hid hr2
  have HX2 := Lib.hid hx2
  have HM0 := Lib.hid (show satB L M = !(M.any (satF fun l => srt (stL L l))) from rfl)
  have HSP := Lib.hid (fun l => srt_pairwise (stL L l))
  have HLN := Lib.hid (show ∀ l, (srt (stL L l)).length ≤ 1000 from fun l => by rw [srt_len]; exact Nat.le_trans (List.length_filterMap_le _ _) hlen)
  clear hT hr hr2 hx hx2
  go_enter Tryz.func16, Tryz.ntmps16
  go_wp2_with fail
  go_fit (P.out _ HT.out HR.out)
  rintro e w2 ⟨K, G, rfl, hm, hK, hb⟩
  have hbz := (Below.refl w2.heap.size w2).alloc (Nat.le_refl _) (.cells #[.map (some K)] 43)
  have hbe := hb.trans (hbz.mono hb.size)
  have TE : Tells 31 w2.heap.size M (satF fun l => srt (stL L l)) (w2.alloc (.cells #[.map (some K)] 43)) := by
    intro x hx w' hw
    have hT' := HT.out.below (hbe.trans (hw.mono hbe.size))
    have hc : (w2.alloc (.cells #[.map (some K)] 43)).cell? ⟨w2.heap.size, 0, none⟩ = some (.map (some K)) := by simp [World.cell?_alloc_new]
    exact satClosure_any _ K L.length w2.heap.size G _ HSP.out HLN.out x (HX2.out x hx) w' hT' ((hm.kept hbz).kept hw) ((hw.cell (p := ⟨w2.heap.size, 0, none⟩) (by show w2.heap.size < _; simp)).trans hc)
  have C := Lib.hid (containsFunc_sat w2.heap.size v2 cap2 M (satF fun l => srt (stL L l)) hlen2 _ ((HR2.out.below hbe)) TE)
  have BE := Lib.hid hbe
  clear TE hbz hbe hb hm hK
  go_wp2_with fail
  go_fit C.out
  rintro e w3 ⟨rfl, hb⟩
  have B3 := Lib.hid (BE.out.trans (hb.mono BE.out.size))
  clear hb
  go_wp2_with fail
  go_ret
  exact ⟨ret_bool HM0.out.symm, B3.out⟩
end Go.Proofs.YtglckcenjnieaaaGreatDoor
