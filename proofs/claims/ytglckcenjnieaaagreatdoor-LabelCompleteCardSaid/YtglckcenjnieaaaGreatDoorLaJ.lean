/- The contracts of Implies's closure and of Implies (label). -/
import Derived.Test.YtglckcenjnieaaaGreatDoorLaK
import Derived.Deep.RegionHeld3
namespace Go.Proofs.YtglckcenjnieaaaGreatDoor
open Go.RowKit Go.Lib Go.Maps

/-- What the closure's last line stands on. -/
structure ImpH (w w' : World) (b p K n : Nat) (lo hi : Int) (F : List UInt8 → Option (Int × Int)) : Prop where
  two : TwoL w' b 40 (.int .i64 lo) (.int .i64 hi)
  cell : w'.cell? ⟨p, 0, none⟩ = some (.map (some K))
  lt : p < w'.heap.size
  sp : SpM w' K n F
  bel : Below w.heap.size w w'
theorem ImpH.below {w w1 w2 : World} {b p K n : Nat} {lo hi : Int} {F : List UInt8 → Option (Int × Int)} (h : ImpH w w1 b p K n lo hi F) (hb : Below w1.heap.size w1 w2) : ImpH w w2 b p K n lo hi F :=
  ⟨h.two.below hb, (hb.cell (p := ⟨p, 0, none⟩) h.lt).trans h.cell, Nat.lt_of_lt_of_le h.lt hb.size, h.sp.kept hb, h.bel.trans (hb.mono h.bel.size)⟩
theorem imp_s {w w' : World} {b p K n : Nat} {lo hi : Int} {F : List UInt8 → Option (Int × Int)} (h : ImpH w w' b p K n lo hi F) : w'.cell? ⟨b, 0, none⟩ = some (.int .i64 lo) ∧ w'.cell? ⟨b, 1, none⟩ = some (.int .i64 hi) ∧ w'.cell? ⟨p, 0, none⟩ = some (.map (some K)) ∧ ImpH w w' b p K n lo hi F := by
  obtain ⟨t0, t1, -⟩ := h.two.facts
  exact ⟨t0, t1, h.cell, h⟩
theorem imp_h {w w' : World} {b p K n : Nat} {lo hi : Int} {F : List UInt8 → Option (Int × Int)} (h : w'.cell? ⟨b, 0, none⟩ = some (.int .i64 lo) ∧ w'.cell? ⟨b, 1, none⟩ = some (.int .i64 hi) ∧ w'.cell? ⟨p, 0, none⟩ = some (.map (some K)) ∧ ImpH w w' b p K n lo hi F) : ImpH w w' b p K n lo hi F := h.2.2.2
theorem imp_t {w w' w2 : World} {b p K n : Nat} {lo hi : Int} {F : List UInt8 → Option (Int × Int)} (h : w'.cell? ⟨b, 0, none⟩ = some (.int .i64 lo) ∧ w'.cell? ⟨b, 1, none⟩ = some (.int .i64 hi) ∧ w'.cell? ⟨p, 0, none⟩ = some (.map (some K)) ∧ ImpH w w' b p K n lo hi F) (hb : Below w'.heap.size w' w2) : w2.cell? ⟨b, 0, none⟩ = some (.int .i64 lo) ∧ w2.cell? ⟨b, 1, none⟩ = some (.int .i64 hi) ∧ w2.cell? ⟨p, 0, none⟩ = some (.map (some K)) ∧ ImpH w w2 b p K n lo hi F := imp_s (h.2.2.2.below hb)
/-- What Implies's closure answers: is this requirement not implied? -/
def impF (F : List UInt8 → Option (Int × Int)) (x : List UInt8) : Bool :=
  match needP x with
  | none => true
  | some (a, lo, hi) => !(decide (lo ≤ (ofF F a).1) && decide ((ofF F a).2 ≤ hi))
set_option maxHeartbeats 2000000 in
theorem impClosure_any (K n p : Nat) (F : List UInt8 → Option (Int × Int)) (x : List UInt8) (hx : x.length ≤ 1048576) (w : World) (hT : TabK w) (hm : SpM w K n F) (hp : w.cell? ⟨p, 0, none⟩ = some (.map (some K))) :
    Calls Tryz.prog 35 #[.string ⟨x.toArray⟩, .pointer (some ⟨p, 0, none⟩)] w fun e w' => e = .returned (.bool (impF F x)) ∧ Below w.heap.size w w' := by
  have PN := Lib.hid (parseNeed_any ⟨x.toArray⟩ (by show x.toArray.size ≤ _; simpa using hx) w hT)
  have HM := Lib.hid hm
  have HPc := Lib.hid hp
  have hpl := cell_ltK hp
  clear hT hm hp
  go_enter Tryz.func35, Tryz.ntmps35
  go_wp2_with fail
  go_fit (PN.out)
  rintro e w2 ⟨nm, lo, hi, ok, rfl, hR, hb⟩
  rw [show (⟨x.toArray⟩ : ByteArray).data.toList = x by simp] at hR
  have B2 := Lib.hid hb
  have z2 := hb.size
  have hpc := (hb.cell (p := ⟨p, 0, none⟩) hpl).trans HPc.out
  have HM2 := Lib.hid (HM.out.kept hb)
  clear hb
  cases hN : needP x with
  | none =>
    rw [hN] at hR
    obtain rfl : ok = false := hR
    have HN := Lib.hid (show impF F x = true by unfold impF; rw [hN])
    clear hN
    go_wp2_with fail
    go_quiet (fail)
    go_wp2_with fail
    go_ret
    exact ⟨ret_bool HN.out.symm, below_drewN (B2.out.alloc z2 _) _⟩
  | some q =>
    obtain ⟨a, lo', hi'⟩ := q
    rw [hN] at hR
    obtain ⟨rfl, rfl, rfl, rfl⟩ := hR
    have HN := Lib.hid (show impF F x = !(decide (lo ≤ (ofF F a).1) && decide ((ofF F a).2 ≤ hi)) by unfold impF; rw [hN])
    have hal := need_len hN
    clear hN
    go_wp2_with fail
    have hs0 : ImpH w (w2.alloc (.cells #[.int .i64 lo, .int .i64 hi] 40)) w2.heap.size p K n lo hi F := by
      have hbz := (Below.refl w2.heap.size w2).alloc (Nat.le_refl _) (.cells #[.int .i64 lo, .int .i64 hi] 40)
      exact ⟨TwoL.new _ _ _ _, (hbz.cell (p := ⟨p, 0, none⟩) (by show p < w2.heap.size; omega)).trans hpc, by simp; omega, HM2.out.kept hbz, B2.out.alloc z2 _⟩
    obtain ⟨wn, hwn⟩ : ∃ wn, wn = w2.alloc (.cells #[.int .i64 lo, .int .i64 hi] 40) := ⟨_, rfl⟩
    rw [← hwn] at hs0 ⊢
    have hs1 := imp_s (hs0.below ((Below.refl wn.heap.size wn).drew))
    clear hwn hs0 hpc z2 hpl
    generalize w2.heap.size = b2 at *
    have OF := Lib.hid (fun (w' : World) (h : SpM w' K n F) => of_any K n F a (by omega) w' h)
    have IN := Lib.hid (fun (c d : Int) (w' : World) => includes_any lo hi c d w')
    generalize ofF F a = of at OF HN
    obtain ⟨o1, o2⟩ := of
    dsimp only at OF HN
    go_region_held3 (fun w' => w'.cell? ⟨b2, 0, none⟩ = some (.int .i64 lo) ∧ w'.cell? ⟨b2, 1, none⟩ = some (.int .i64 hi) ∧ w'.cell? ⟨p, 0, none⟩ = some (.map (some K)) ∧ ImpH w w' b2 p K n lo hi F) (first | exact hs1 | assumption | exact imp_t (by assumption) (by assumption)) (first
      | (go_at_call 37; go_fit (OF.out _ (imp_h (w := w) (b := b2) (p := p) (lo := lo) (hi := hi) (by assumption)).sp); rintro e w5 ⟨rfl, hb5⟩)
      | (go_at_call 36; go_fit (IN.out o1 o2 _); rintro e w6 ⟨rfl, hb6⟩))
    all_goals
      go_wp2_with fail
      go_ret
      exact ⟨ret_bool (by rw [HN.out, Bool.not_and]), (imp_h (w := w) (b := b2) (p := p) (K := K) (n := n) (lo := lo) (hi := hi) (F := F) (by assumption)).bel⟩

/-- What Implies answers. -/
def impliesB (L M : List (List UInt8)) : Bool := match permL L (fun _ => none) with
  | none => true
  | some F => !(M.any (impF F))
set_option maxHeartbeats 2000000 in
theorem implies_any (v v2 : Option Addr) (cap cap2 : Nat) (L M : List (List UInt8)) (hlen : L.length ≤ 1000) (hx : ∀ x ∈ L, x.length ≤ 1048576) (hlen2 : M.length ≤ 1000) (hx2 : ∀ x ∈ M, x.length ≤ 1048576) (w : World) (hT : TabK w) (hr : ReadsStr w v L) (hr2 : ReadsStr w v2 M) :
    Calls Tryz.prog 18 #[.slice v L.length cap, .slice v2 M.length cap2] w fun e w' => e = .returned (.bool (impliesB L M)) ∧ Below w.heap.size w w' := by
  have P := Lib.hid (permittedBy_any v cap L hlen hx w hT hr)
  have HT := Lib.hid hT
  have HR2 := Lib.hid hr2
  have HX2 := Lib.hid hx2
  clear hT hr hr2 hx hx2
  go_enter Tryz.func18, Tryz.ntmps18
  go_wp2_with fail
  go_fit (P.out)
  rintro e w2 ⟨hb, ⟨hn, rfl⟩ | ⟨K, F, hF, hK, hm, rfl⟩⟩
  · have HN := Lib.hid (show impliesB L M = true by unfold impliesB; rw [hn])
    have B2 := Lib.hid hb
    clear hb hn
    go_wp2_with fail
    go_ret
    exact ⟨ret_bool HN.out.symm, B2.out.alloc B2.out.size _⟩
  · have HN := Lib.hid (show impliesB L M = !(M.any (impF F)) by unfold impliesB; rw [hF])
    have hbz := (Below.refl w2.heap.size w2).alloc (Nat.le_refl _) (.cells #[.map (some K)] 51)
    have hbe := hb.trans (hbz.mono hb.size)
    have TE : Tells 35 w2.heap.size M (impF F) (w2.alloc (.cells #[.map (some K)] 51)) := by
      intro x hx w' hw
      have hT' := HT.out.below (hbe.trans (hw.mono hbe.size))
      have hc : (w2.alloc (.cells #[.map (some K)] 51)).cell? ⟨w2.heap.size, 0, none⟩ = some (.map (some K)) := by simp [World.cell?_alloc_new]
      exact impClosure_any K L.length w2.heap.size F x (HX2.out x hx) w' hT' ((hm.kept hbz).kept hw) ((hw.cell (p := ⟨w2.heap.size, 0, none⟩) (by show w2.heap.size < _; simp)).trans hc)
    have C := Lib.hid (containsFunc_imp w2.heap.size v2 cap2 M (impF F) hlen2 _ ((HR2.out.below hbe)) TE)
    have BE := Lib.hid hbe
    clear TE hbz hbe hb hm hF hK
    go_wp2_with fail
    go_fit C.out
    rintro e w3 ⟨rfl, hb⟩
    have B3 := Lib.hid (BE.out.trans (hb.mono BE.out.size))
    clear hb
    go_wp2_with fail
    go_ret
    exact ⟨ret_bool HN.out.symm, B3.out⟩
end Go.Proofs.YtglckcenjnieaaaGreatDoor
