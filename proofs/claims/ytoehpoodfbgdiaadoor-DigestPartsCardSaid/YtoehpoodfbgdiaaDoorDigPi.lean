/- Contract of the program's Sum (digest): it computes what the document's does. -/
import Derived.Test.YtoehpoodfbgdiaaDoorDigPg
import Derived.Test.YtoehpoodfbgdiaaDoorDigPh
namespace Go.Proofs.YtoehpoodfbgdiaaDoor
open Go.RowKit Go.Shelf

attribute [local go_sem] Oper.semAt_some

theorem leN_take : ∀ (n : Nat) (l : List UInt8), leN n (l.take n) = leN n l
  | 0, _ => rfl
  | _ + 1, [] => rfl
  | n + 1, b :: r => by rw [List.take_succ_cons, leN, leN, leN_take n r]

/-- The digest when the pieces of a list of numbers have come. -/
def sumP (l : List UInt8) (pre : List Nat) : Nat := pre.foldl (fun s x => mixN (leN 8 (l.drop (8 * x))) s ^^^ leN 8 (l.drop (8 * x))) (mixN l.length 0)
theorem sumP_snoc (l : List UInt8) (pre : List Nat) (x : Nat) : sumP l (pre ++ [x]) = mixN (leN 8 (l.drop (8 * x))) (sumP l pre) ^^^ leN 8 (l.drop (8 * x)) := by
  unfold sumP
  rw [List.foldl_append, List.foldl_cons, List.foldl_nil]
theorem sumP_range (l : List UInt8) : ∀ k, sumP l (List.range k) = sumK l k
  | 0 => by rw [List.range_zero, sumP, List.foldl_nil, sumK]
  | k + 1 => by rw [List.range_succ, sumP_snoc, sumP_range l k, sumK]
theorem sumP_lt (l : List UInt8) (pre : List Nat) : sumP l pre < 18446744073709551616 := by
  have : ∀ (pre : List Nat) (s : Nat), s < 18446744073709551616 → pre.foldl (fun s x => mixN (leN 8 (l.drop (8 * x))) s ^^^ leN 8 (l.drop (8 * x))) s < 18446744073709551616 := by
    intro pre
    induction pre with
    | nil => intro s h; exact h
    | cons x r ih => intro s h; exact ih _ (xor_lt64 (mixN_lt h) (leN_lt8 _))
  unfold sumP
  exact this pre _ (mixN_lt (by decide))

/-- The pieces of a slice that reads read. -/
theorem pieces_read (v : Option Addr) (l : List UInt8) (w : World) (hr : ReadsBytes w v l) : ∃ b off, (0 < l.length → v = some ⟨b, off, none⟩) ∧ ∀ W, ReadsBytes W v l → ∀ x, ReadsBytes W (some ⟨b, off + 8 * x, none⟩) ((l.drop (8 * x)).take 8) := by
  by_cases h0 : 0 < l.length
  · obtain ⟨b, off, rfl⟩ := reads_some hr h0
    exact ⟨b, off, fun _ => rfl, fun W h x => h.drop (8 * x) 8⟩
  · refine ⟨0, 0, fun h => absurd h h0, fun W _ x j hj => ?_⟩
    rw [List.length_take, List.length_drop] at hj
    omega
theorem keepsOthers_below {W W' : World} (h : Below W.heap.size W W') : KeepsOthers W W' := ⟨h.size, fun i _ hi _ => (h.block i (Array.getElem?_eq_some_iff.1 hi).1).trans hi⟩
theorem ownFrom_size {β : Type} (B n : Nat) : OwnFrom B (fun (_ : β) (W : World) => n ≤ W.heap.size) := fun _ _ _ _ hs hg _ => Nat.le_trans hs hg.size

set_option maxRecDepth 100000 in
set_option maxHeartbeats 4000000 in
theorem digSum_any (v : Option Addr) (cap : Nat) (l : List UInt8) (hlc : l.length ≤ cap) (hl : l.length ≤ 140737488355000) (w : World) (hr : ReadsBytes w v l) :
    Calls Tryd.prog 13 #[.slice v l.length cap] w fun e w' => e = .returned (.int .u64 (sumN l : Nat)) ∧ Below w.heap.size w w' := by
  have M0 := Lib.hid (fun w => digMix_any l.length 0 (by omega) (by decide) w)
  obtain ⟨m0, hm0⟩ : ∃ m, m = mixN l.length 0 := ⟨_, rfl⟩
  have hp0 : sumP l [] = m0 := by rw [hm0, sumP, List.foldl_nil]
  rw [← hm0] at M0
  have HR := Lib.hid hr
  clear hr hm0
  refine (callsIn_wide (n := 3)).1 ?_
  refine callsIn_of_wp_marks Tryd.func13 rfl trivial ?_ rfl
  simp only [Tryd.ntmps13, List.size_toArray, List.length_cons, List.length_nil, Nat.reduceAdd, Nat.reduceSub, Array.replicate_succ, Array.replicate_zero, List.push_toArray, List.append_toArray, List.nil_append, List.cons_append]
  gi_wp2_with (first
    | (refine ⟨trivial, ?_⟩; gi_at_call 10; refine (callsIn_wide.2 (M0.out _)).mono ?_; rintro e w1 ⟨rfl, hb⟩)
    | (refine ⟨trivial, ?_⟩; gi_at_call 27; refine (chunk_in Fence.wide _ trivial rfl _ _ _ _).mono ?_; rintro e w2 ⟨rfl, rfl⟩))
  have hsz1 := hb.size
  have HB1 := Lib.hid hb
  have HR1 := Lib.hid (HR.out.below hb)
  obtain ⟨b, off, hv, hpc⟩ := pieces_read v l w HR.out
  obtain ⟨W0, hW0⟩ : ∃ W0, ((w1.alloc (.cells #[.int .u64 m0] 22)).alloc (.cells #[.slice v l.length cap] 27)).alloc (.cells #[.int .i64 8] 3) = W0 := ⟨_, rfl⟩
  have hW0s : W0.heap.size = w1.heap.size + 1 + 1 + 1 := by rw [← hW0]; simp
  have hB0 : Below w.heap.size w W0 := by rw [← hW0]; exact ((hb.alloc hsz1 _).alloc (by simp; omega) _).alloc (by simp; omega) _
  have bS : Boxed W0 w1.heap.size 22 (.int .u64 m0) := by rw [← hW0]; exact ((Boxed.new w1 _ _).alloc _).alloc _
  have c1 : W0.cell? ⟨w1.heap.size + 1, 0, none⟩ = some (.slice v l.length cap) := by
    have h := (Boxed.new (w1.alloc (.cells #[.int .u64 m0] 22)) 27 (.slice v l.length cap)).alloc (.cells #[.int .i64 8] 3)
    rw [hW0, World.size_alloc] at h
    exact h.cell
  have c2 : W0.cell? ⟨w1.heap.size + 1 + 1, 0, none⟩ = some (.int .i64 8) := by
    have h := Boxed.new ((w1.alloc (.cells #[.int .u64 m0] 22)).alloc (.cells #[.slice v l.length cap] 27)) 3 (.int .i64 8)
    rw [hW0, World.size_alloc, World.size_alloc] at h
    exact h.cell
  rw [hW0]
  have hst := chunk_stops Fence.wide (3 - 1) trivial rfl (by omega) (w1.heap.size + 1) (w1.heap.size + 1 + 1) w.heap.size (w1.heap.size + 1) b off l.length cap v hv hlc (by omega) W0 (by omega) (by omega) (by omega) (by omega) c1 c2
  rw [hW0s] at hst
  refine wpIn_rangeFunc_ownF rfl (by omega) (gf := 36) (lb := #[.pointer (some ⟨w1.heap.size + 1, 0, none⟩), .pointer (some ⟨w1.heap.size + 1 + 1, 0, none⟩)]) rfl trivial (enters_of Tryd.func36 (by kernel_rfl) rfl)
    hst KeepK.trans (KeepK.put (by omega) (by omega)) (Below.refl _ _) (fun _ => rfl)
    (fun pre W => Boxed W w1.heap.size 22 (.int .u64 (sumP l pre : Nat)) ∧ (Below w.heap.size w W ∧ w1.heap.size + 1 + 1 + 1 ≤ W.heap.size))
    (fun _ _ _ => False)
    (OwnFrom.and (Own.from (boxed_own _ _ _) _) (OwnFrom.and (ownFrom_below (Nat.le_refl _) (by omega)) (ownFrom_size _ _)))
    (fun _ _ _ _ _ hs _ _ => hs)
    ⟨by rw [hp0]; exact bS, hB0, by omega⟩
    (fun x => { tmps := #[.slice v l.length cap, undef, .int .u64 0, .pointer (some ⟨w1.heap.size, 0, none⟩), .slice (some ⟨b, off + 8 * x, none⟩) (min 8 (l.length - 8 * x)) (min 8 (l.length - 8 * x)), undef, .slice v l.length cap, .int .i64 l.length, .int .u64 l.length, .int .u64 m0, .slice v l.length cap,
      .func (.func 36) #[] #[.pointer (some ⟨w1.heap.size + 1, 0, none⟩), .pointer (some ⟨w1.heap.size + 1 + 1, 0, none⟩)], .slice (some ⟨b, off + 8 * x, none⟩) (min 8 (l.length - 8 * x)) (min 8 (l.length - 8 * x)), undef, undef, undef, undef, undef, undef, undef, undef], defers := [] }) ?assign ?body ?done ?stop
  case assign =>
    intro lp x W K hK
    unfold piece
    gi_wp2
    exact hK
  case body =>
    rintro lp pre x W ⟨hbx, hbw, hsz⟩ _
    have hlen : ((l.drop (8 * x)).take 8).length = min 8 (l.length - 8 * x) := by rw [List.length_take, List.length_drop]
    have hl8 : ((l.drop (8 * x)).take 8).length ≤ 8 := by rw [hlen]; omega
    have G := group_any (some ⟨b, off + 8 * x, none⟩) (min 8 (l.length - 8 * x)) ((l.drop (8 * x)).take 8) hl8 W (hpc W (HR.out.below hbw) x)
    rw [hlen, leN_take] at G
    have hsn := sumP_snoc l pre x
    have hsl := sumP_lt l pre
    have hgl := leN_lt8 (l.drop (8 * x))
    obtain ⟨g, hg⟩ : ∃ g, g = leN 8 (l.drop (8 * x)) := ⟨_, rfl⟩
    rw [← hg] at G hsn hgl
    obtain ⟨s, hs⟩ : ∃ s, s = sumP l pre := ⟨_, rfl⟩
    rw [← hs] at hsn hsl hbx
    have M := Lib.hid (digMix_any g s hgl hsl W)
    have hxx := bits_xor_u64_nat (mixN g s) g (mixN_lt hsl) hgl
    obtain ⟨m, hm⟩ : ∃ m, m = mixN g s := ⟨_, rfl⟩
    rw [← hm] at M hsn hxx
    obtain ⟨z, hz⟩ : ∃ z, z = m ^^^ g := ⟨_, rfl⟩
    rw [← hz] at hsn hxx
    have HS := Lib.hid hsn
    have HG := Lib.hid G
    obtain ⟨q, hq⟩ : ∃ q, q = min 8 (l.length - 8 * x) := ⟨_, rfl⟩
    obtain ⟨o, ho⟩ : ∃ o, o = off + 8 * x := ⟨_, rfl⟩
    rw [← hq, ← ho] at HG ⊢
    have hc := hbx.cell
    have hf := hbx.frozen
    clear hq ho hz hm hs hg hgl hsl hsn G hlen hl8 hst hpc hp0
    gi_wp2_with (first
      | (refine ⟨trivial, ?_⟩; gi_at_call 28; refine (CallsIn.inRound lp (callsIn_wide.2 HG.out)).mono ?_; rintro e w2 ⟨rfl, rfl⟩)
      | (refine ⟨trivial, ?_⟩; gi_at_call 10; refine (CallsIn.inRound lp (callsIn_wide.2 M.out)).mono ?_; rintro e w2 ⟨rfl, hb2⟩; have hbx2 : Boxed w2 w1.heap.size 22 (.int .u64 s) := (hb2.block _ hbx.lt).trans hbx; have hc2' := hbx2.cell; have hf2' := hbx2.frozen))
    have hs2 := hb2.size
    have hws := hbw.size
    refine ⟨(keepsOthers_below hb2).trans (KeepsOthers.setCell _ _ _), ⟨(hb2.mono (by omega)).setCell (p := ⟨w1.heap.size, 0, none⟩) hsz1 _, fun j h1 h2 => ?_⟩, by rw [HS.out]; exact hbx2.set _, (hbw.trans (hb2.mono (by omega))).setCell (p := ⟨w1.heap.size, 0, none⟩) hsz1 _, by rw [World.size_setCell]; omega⟩
    exact ((grownBy_setCell' w2 w1.heap.size (.int .u64 z)).block j (by omega) (fun e => by cases e; omega)).trans (hb2.block j (by omega))
  case done =>
    rintro D ys W hD rfl ⟨hbx, hbw, _⟩ hK
    have hc := hbx.cell
    rw [sumP_range] at hc
    have hN : sumN l = sumK l ((l.length + 7) / 8) := by rw [sumN]
    rw [← hN] at hc
    obtain ⟨z, hz⟩ : ∃ z, z = sumN l := ⟨_, rfl⟩
    rw [← hz] at hc
    have HZ := Lib.hid hz
    clear hN hz
    gi_wp2
    refine ⟨by simp, .inl ⟨_, _, rfl, run_takeDeferred hK, ?_⟩⟩
    exact ⟨_, results_tmp rfl _ _ _, by rw [← HZ.out]; rfl, hbw.trans (belowK_b (w := w) (Nat.le_refl _) W D _ _ (by omega) hK rfl rfl)⟩
  case stop =>
    rintro D c pre W _ _ h _
    exact h.elim
end Go.Proofs.YtoehpoodfbgdiaaDoor
