/- Contracts of the document's Text, Levels, Get and Vars (pipelineref07). -/
import Derived.Test.YtabopneehhnhfaaGreatDoorVluRd
import Derived.Test.YtabopneehhnhfaaGreatDoorVluY
namespace Go.Proofs.YtabopneehhnhfaaGreatDoor
open Go.RowKit Go.Lib

set_option maxRecDepth 100000 in
set_option maxHeartbeats 8000000 in
theorem rText_any (m : Nat) (V : Value) (x : Vl) (w : World) (hV : IsV m w V x) :
    Calls Tryz.prog 28 #[V] w fun e w' => e = .returned (.tuple #[.string (textV m x).1, .int .i64 ((textV m x).2 : Nat)]) ∧ Below w.heap.size w w' := by
  have VV := Lib.hid (fun w' (hb : Below w.heap.size w w') => refValidV_any m V x w' (hV.below hb))
  have LL := Lib.hid (fun w' (hb : Below w.heap.size w w') (h : errV 16 x = 0) hl => lit_any m 16 V x w' h (hV.below hb) hl)
  obtain ⟨k, t, i, s, l, ks, av, c, kv, kc, rfl, rfl, _, gi, _⟩ := hV
  by_cases hk : k = 4 ∨ k = 5
  · have E := Lib.hid (show textV m (.mk k t i s l ks) = (⟨#[]⟩, 9) by unfold textV; rw [if_pos (show (Vl.mk k t i s l ks).kind = 4 ∨ (Vl.mk k t i s l ks).kind = 5 from hk)])
    clear VV LL
    rcases hk with rfl | rfl
    all_goals
      go_enter Tryz.func28, Tryz.ntmps28
      go_wp2_with fail
      go_ret2
      exact ⟨by rw [E.out]; rfl, (by repeat (first | exact Below.refl _ _ | refine Below.alloc ?_ (by simp <;> omega) _))⟩
  have e4 : (k == 4) = false := by rw [beq_eq_false_iff_ne]; exact fun h => hk (.inl h)
  have e5 : (k == 5) = false := by rw [beq_eq_false_iff_ne]; exact fun h => hk (.inr h)
  have hk' : ¬ ((Vl.mk k t i s l ks).kind = 4 ∨ (Vl.mk k t i s l ks).kind = 5) := hk
  by_cases h0 : errV 16 (.mk k t i s l ks) = 0
  case neg =>
    have E := Lib.hid (show textV m (.mk k t i s l ks) = (⟨#[]⟩, errV 16 (.mk k t i s l ks)) by unfold textV; rw [if_neg hk', if_pos h0])
    obtain ⟨z, hz⟩ : ∃ z, z = errV 16 (.mk k t i s l ks) := ⟨_, rfl⟩
    rw [← hz] at VV h0 E
    have g1 : ((z : Int) != 0) = true := by rw [bne_iff_ne]; omega
    clear LL hk hk' hz h0
    have B0 := Lib.hid ((Below.refl w.heap.size w).alloc (Nat.le_refl _) (.cells #[.int .i64 k, .bool t, .int .i64 i, .string s, .slice av l.length c, .slice kv ks.length kc] 25))
    go_enter Tryz.func28, Tryz.ntmps28
    go_wp2_with fail
    go_fit (VV.out _ B0.out)
    rintro e w2 ⟨rfl, hb2⟩
    have B2 := Lib.hid (B0.out.trans (hb2.mono B0.out.size))
    clear hb2
    go_wp2_with fail
    go_ret2
    exact ⟨by rw [E.out]; rfl, B2.out⟩
  rw [h0] at VV
  have hlim : k = 1 ∨ k = 2 → (litV m (.mk k t i s l ks)).length ≤ 140737488355328 := by
    intro h
    obtain ⟨f, he, _⟩ := litV_mk m
    rw [he]
    rcases h with rfl | rfl
    · show (if t = true then [116, 114, 117, 101] else [102, 97, 108, 115, 101] : List UInt8).length ≤ _
      split <;> simp
    · show (Lib.itoa i).length ≤ _
      have := itoa_len gi.1 gi.2
      omega
  obtain ⟨⟨a1, a2, _⟩, _⟩ := err_parts.1 h0
  have ET : textV m (.mk k t i s l ks) = if k = 0 then (⟨#[]⟩, 0) else if k = 3 then (s, 0) else (⟨(litV m (.mk k t i s l ks)).toArray⟩, 0) := by
    unfold textV
    rw [if_neg hk', if_neg (show ¬ errV 16 (.mk k t i s l ks) ≠ 0 by omega)]
    rfl
  clear hk' e4 e5
  have B0 := Lib.hid ((Below.refl w.heap.size w).alloc (Nat.le_refl _) (.cells #[.int .i64 k, .bool t, .int .i64 i, .string s, .slice av l.length c, .slice kv ks.length kc] 25))
  have C0 := CellsAt.new w 25 #[.int .i64 k, .bool t, .int .i64 i, .string s, .slice av l.length c, .slice kv ks.length kc]
  have hk3 : k = 0 ∨ k = 3 ∨ k = 1 ∨ k = 2 := by omega
  clear a1 a2 hk
  rcases hk3 with rfl | hk3
  · have E := Lib.hid (show textV m (.mk 0 t i s l ks) = (⟨#[]⟩, 0) by rw [ET]; rfl)
    clear LL ET hlim h0
    go_enter Tryz.func28, Tryz.ntmps28
    go_wp2_with fail
    go_fit (VV.out _ B0.out)
    rintro e w1 ⟨rfl, hb1⟩
    have B1 := Lib.hid (B0.out.trans (hb1.mono B0.out.size))
    have C1 := C0.below hb1
    have d0 : w1.cell? ⟨w.heap.size, 0, none⟩ = some (.int .i64 0) := C1.cell rfl
    have d1 : w1.cell? ⟨w.heap.size, 1, none⟩ = some (.bool t) := C1.cell rfl
    have d2 : w1.cell? ⟨w.heap.size, 2, none⟩ = some (.int .i64 i) := C1.cell rfl
    have d3 : w1.cell? ⟨w.heap.size, 3, none⟩ = some (.string s) := C1.cell rfl
    have d4 : w1.cell? ⟨w.heap.size, 4, none⟩ = some (.slice av l.length c) := C1.cell rfl
    have d5 : w1.cell? ⟨w.heap.size, 5, none⟩ = some (.slice kv ks.length kc) := C1.cell rfl
    clear hb1 C0 C1
    go_wp2_with fail
    go_ret2
    exact ⟨by rw [E.out]; rfl, B1.out⟩
  rcases hk3 with rfl | hk3
  · have E := Lib.hid (show textV m (.mk 3 t i s l ks) = (s, 0) by rw [ET]; rfl)
    clear LL ET hlim h0
    go_enter Tryz.func28, Tryz.ntmps28
    go_wp2_with fail
    go_fit (VV.out _ B0.out)
    rintro e w1 ⟨rfl, hb1⟩
    have B1 := Lib.hid (B0.out.trans (hb1.mono B0.out.size))
    have C1 := C0.below hb1
    have d0 : w1.cell? ⟨w.heap.size, 0, none⟩ = some (.int .i64 3) := C1.cell rfl
    have d1 : w1.cell? ⟨w.heap.size, 1, none⟩ = some (.bool t) := C1.cell rfl
    have d2 : w1.cell? ⟨w.heap.size, 2, none⟩ = some (.int .i64 i) := C1.cell rfl
    have d3 : w1.cell? ⟨w.heap.size, 3, none⟩ = some (.string s) := C1.cell rfl
    have d4 : w1.cell? ⟨w.heap.size, 4, none⟩ = some (.slice av l.length c) := C1.cell rfl
    have d5 : w1.cell? ⟨w.heap.size, 5, none⟩ = some (.slice kv ks.length kc) := C1.cell rfl
    clear hb1 C0 C1
    go_wp2_with fail
    go_ret2
    exact ⟨by rw [E.out]; rfl, B1.out⟩
  rcases hk3 with rfl | hk3
  · have E := Lib.hid (show textV m (.mk 1 t i s l ks) = (⟨(litV m (.mk 1 t i s l ks)).toArray⟩, 0) by rw [ET]; rfl)
    have L2 := Lib.hid (fun w' hb => LL.out w' hb h0 (hlim (by omega)))
    obtain ⟨LT, hLT⟩ : ∃ LT, LT = litV m (.mk 1 t i s l ks) := ⟨_, rfl⟩
    rw [← hLT] at L2 E
    clear hLT
    clear LL ET hlim h0
    go_enter Tryz.func28, Tryz.ntmps28
    go_wp2_with fail
    go_fit (VV.out _ B0.out)
    rintro e w1 ⟨rfl, hb1⟩
    have B1 := Lib.hid (B0.out.trans (hb1.mono B0.out.size))
    have C1 := C0.below hb1
    have d0 : w1.cell? ⟨w.heap.size, 0, none⟩ = some (.int .i64 1) := C1.cell rfl
    have d1 : w1.cell? ⟨w.heap.size, 1, none⟩ = some (.bool t) := C1.cell rfl
    have d2 : w1.cell? ⟨w.heap.size, 2, none⟩ = some (.int .i64 i) := C1.cell rfl
    have d3 : w1.cell? ⟨w.heap.size, 3, none⟩ = some (.string s) := C1.cell rfl
    have d4 : w1.cell? ⟨w.heap.size, 4, none⟩ = some (.slice av l.length c) := C1.cell rfl
    have d5 : w1.cell? ⟨w.heap.size, 5, none⟩ = some (.slice kv ks.length kc) := C1.cell rfl
    clear hb1 C0 C1
    go_wp2_with fail
    go_fit (L2.out _ B1.out)
    rintro e w2 ⟨rfl, hb2⟩
    have B2 := Lib.hid (B1.out.trans (hb2.mono B1.out.size))
    clear hb2
    go_wp2_with fail
    go_ret2
    exact ⟨by rw [E.out]; rfl, B2.out⟩
  subst hk3
  have E := Lib.hid (show textV m (.mk 2 t i s l ks) = (⟨(litV m (.mk 2 t i s l ks)).toArray⟩, 0) by rw [ET]; rfl)
  have L2 := Lib.hid (fun w' hb => LL.out w' hb h0 (hlim (by omega)))
  obtain ⟨LT, hLT⟩ : ∃ LT, LT = litV m (.mk 2 t i s l ks) := ⟨_, rfl⟩
  rw [← hLT] at L2 E
  clear hLT
  clear LL ET hlim h0
  go_enter Tryz.func28, Tryz.ntmps28
  go_wp2_with fail
  go_fit (VV.out _ B0.out)
  rintro e w1 ⟨rfl, hb1⟩
  have B1 := Lib.hid (B0.out.trans (hb1.mono B0.out.size))
  have C1 := C0.below hb1
  have d0 : w1.cell? ⟨w.heap.size, 0, none⟩ = some (.int .i64 2) := C1.cell rfl
  have d1 : w1.cell? ⟨w.heap.size, 1, none⟩ = some (.bool t) := C1.cell rfl
  have d2 : w1.cell? ⟨w.heap.size, 2, none⟩ = some (.int .i64 i) := C1.cell rfl
  have d3 : w1.cell? ⟨w.heap.size, 3, none⟩ = some (.string s) := C1.cell rfl
  have d4 : w1.cell? ⟨w.heap.size, 4, none⟩ = some (.slice av l.length c) := C1.cell rfl
  have d5 : w1.cell? ⟨w.heap.size, 5, none⟩ = some (.slice kv ks.length kc) := C1.cell rfl
  clear hb1 C0 C1
  go_wp2_with fail
  go_fit (L2.out _ B1.out)
  rintro e w2 ⟨rfl, hb2⟩
  have B2 := Lib.hid (B1.out.trans (hb2.mono B1.out.size))
  clear hb2
  go_wp2_with fail
  go_ret2
  exact ⟨by rw [E.out]; rfl, B2.out⟩

theorem maxL_snoc (f : Vl → Nat) (x : Vl) : ∀ l, maxL f (l ++ [x]) = max (maxL f l) (1 + f x)
  | [] => by show max (1 + f x) 2 = max 2 (1 + f x); omega
  | y :: r => by
    show max (1 + f y) (maxL f (r ++ [x])) = max (max (1 + f y) (maxL f r)) (1 + f x)
    rw [maxL_snoc f x r]
    omega
theorem maxL_take (f : Vl → Nat) (l : List Vl) (j : Nat) (x : Vl) (h : l[j]? = some x) : maxL f (l.take (j + 1)) = max (maxL f (l.take j)) (1 + f x) := by
  rw [List.take_add_one, h]
  exact maxL_snoc f x _
theorem max_take (f : Vl → Nat) (l : List Vl) (j : Nat) : maxL f (l.take j) ≤ maxL f l := by
  induction l generalizing j with
  | nil => simp
  | cons x r ih =>
    cases j with
    | zero => have := maxL_two f (x :: r); simpa [maxL] using this
    | succ j =>
      have := ih j
      show max (1 + f x) (maxL f (r.take j)) ≤ max (1 + f x) (maxL f r)
      omega
/-- Levels at values of at most m levels below, that are valid. -/
def LevP (m : Nat) : Prop := ∀ (q : Nat) (V : Value) (x : Vl) (w : World), q ≤ 16 → errV q x = 0 → IsV m w V x →
  Calls Tryz.prog 49 #[V] w fun e w' => e = .returned (.int .i64 (levV m x : Nat)) ∧ Below w.heap.size w w'
theorem lev_le {q m : Nat} {x : Vl} (hf : fitsV m x) (h : errV q x = 0) : levV m x ≤ q := by
  cases q with
  | zero => rw [errV_zero] at h; cases h
  | succ q => exact (lev_err q m x hf h).1
theorem levV_mk (m : Nat) : ∃ f, (∀ k t i s l ks, fitsV m (.mk k t i s l ks) → levV m (.mk k t i s l ks) = if k = 4 ∨ k = 5 then maxL f l else 1) ∧ ∀ m', m = m' + 1 → f = levV m' := by
  cases m with
  | zero => exact ⟨fun _ => 0, fun k t i s l ks h => by have h : l = [] := h; subst h; rfl, fun _ h => by omega⟩
  | succ m => exact ⟨levV m, fun k t i s l ks _ => rfl, fun m' h => by rw [show m = m' by omega]⟩
set_option maxHeartbeats 8000000 in
set_option maxRecDepth 100000 in
theorem rLevels_any : ∀ m, LevP m := by
  intro m
  induction m using Nat.strongRecOn with
  | ind m ih =>
    intro q V x w hq16 hq hV
    have hfit := fits_is hV
    have hlv := lev_le hfit hq
    obtain ⟨k, t, i, s, l, ks, av, c, kv, kc, rfl, rfl, g0, g1, g2, g3, g4, g5, g6, g7, g8, g9, hs, hl⟩ := hV
    obtain ⟨q, rfl⟩ : ∃ q', q = q' + 1 := by
      cases q with
      | zero => rw [errV_zero] at hq; cases hq
      | succ q => exact ⟨q, rfl⟩
    obtain ⟨⟨a1, a2, a3, a4, a5, a6, a7, a8, a9, a10⟩, a11⟩ := err_parts.1 hq
    obtain ⟨f, he, hm⟩ := levV_mk m
    rw [he _ _ _ _ _ _ hfit] at hlv ⊢
    rcases (show k = 0 ∨ k = 1 ∨ k = 2 ∨ k = 3 ∨ k = 4 ∨ k = 5 by omega) with rfl | rfl | rfl | rfl | rfl | rfl
    · clear hq he hm ih hs hl hlv a3 a9 a10 a11 hfit
      go_enter Tryz.func49, Tryz.ntmps49
      go_wp2_with fail
      go_ret
      exact ⟨rfl, (by repeat (first | exact Below.refl _ _ | refine Below.alloc ?_ (by simp <;> omega) _))⟩
    · clear hq he hm ih hs hl hlv a3 a9 a10 a11 hfit
      go_enter Tryz.func49, Tryz.ntmps49
      go_wp2_with fail
      go_ret
      exact ⟨rfl, (by repeat (first | exact Below.refl _ _ | refine Below.alloc ?_ (by simp <;> omega) _))⟩
    · clear hq he hm ih hs hl hlv a3 a9 a10 a11 hfit
      go_enter Tryz.func49, Tryz.ntmps49
      go_wp2_with fail
      go_ret
      exact ⟨rfl, (by repeat (first | exact Below.refl _ _ | refine Below.alloc ?_ (by simp <;> omega) _))⟩
    · clear hq he hm ih hs hl hlv a3 a9 a10 a11 hfit
      go_enter Tryz.func49, Tryz.ntmps49
      go_wp2_with fail
      go_ret
      exact ⟨rfl, (by repeat (first | exact Below.refl _ _ | refine Below.alloc ?_ (by simp <;> omega) _))⟩
    · rw [if_pos (by decide)] at hlv ⊢
      have HL := Lib.hid hl
      have HI := Lib.hid ih
      have HF := Lib.hid hm
      have HQ := Lib.hid a11
      have hmono : ∀ j y, l[j]? = some y → 1 + f y ≤ maxL f (l.take (j + 1)) := fun j y h => by rw [maxL_take f l j y h]; omega
      have C0 := Lib.hid (CellsAt.new w 25 #[.int .i64 4, .bool t, .int .i64 i, .string s, .slice av l.length c, .slice kv ks.length kc])
      have B0 := Lib.hid ((Below.refl w.heap.size w).alloc (Nat.le_refl _) (.cells #[.int .i64 4, .bool t, .int .i64 i, .string s, .slice av l.length c, .slice kv ks.length kc] 25))
      have HMX := Lib.hid (show ∀ j, maxL f (l.take j) ≤ 17 from fun j => by
        have h1 := Nat.le_trans (max_take f l j) hlv
        omega)
      clear hs hl ih hm a11 hq he hlv a3 a9 a10 hfit hmono
      go_enter Tryz.func49, Tryz.ntmps49
      go_wp2_with fail
      go_loopw [3, 4] (fun s3 s4 wr => ∃ (j N : Nat), j ≤ l.length ∧ s4 = .int .i64 (j : Int) ∧ s3 = .int .i64 (N : Int) ∧ N ≤ 17 ∧ Hid (N = maxL f (l.take j)) ∧ Hid (CellsAt wr w.heap.size 25 #[.int .i64 4, .bool t, .int .i64 i, .string s, .slice av l.length c, .slice kv ks.length kc]) ∧ Hid (Below w.heap.size w wr)) (fun _ s4 _ => l.length - (RowKit.intOf s4).toNat)
      case atStart => exact ⟨0, 2, by omega, rfl, rfl, by omega, Lib.hid rfl, C0, B0⟩
      case round =>
        obtain ⟨j, N, hj, rfl, rfl, hN17, HN, C, HB⟩ := hrel
        clear C0 B0
        have a4 : wr.cell? ⟨w.heap.size, 4, none⟩ = some (.slice av l.length c) := C.out.cell rfl
        by_cases hlt : j < l.length
        · cases m with
          | zero => exact absurd hlt (by have h : l = [] := HL.out; rw [h]; simp)
          | succ m =>
          obtain ⟨b, off, k1, t1, i1, s1, l1, ks1, av1, c1, kv1, kc1, h0, rfl, h2, e0, e1, e2, e3, e4, e5, q0, q1, q2, q3, q4, q5, q6, q7, q8, q9, hs1, hl1⟩ := HL.out j hlt
          have hx : l[j] = .mk k1 t1 i1 s1 l1 ks1 := (List.getElem?_eq_some_iff.1 h0).2
          have p0 := (HB.out.cell (p := ⟨b, _, none⟩) h2).trans e0
          have p1 := (HB.out.cell (p := ⟨b, _, none⟩) h2).trans e1
          have p2 := (HB.out.cell (p := ⟨b, _, none⟩) h2).trans e2
          have p3 := (HB.out.cell (p := ⟨b, _, none⟩) h2).trans e3
          have p4 := (HB.out.cell (p := ⟨b, _, none⟩) h2).trans e4
          have p5 := (HB.out.cell (p := ⟨b, _, none⟩) h2).trans e5
          have F := Lib.hid (fun w' (hb : Below w.heap.size w w') => by
            have h := HI.out m (by omega) q (.agg #[.int .i64 k1, .bool t1, .int .i64 i1, .string s1, .slice av1 l1.length c1, .slice kv1 ks1.length kc1]) (.mk k1 t1 i1 s1 l1 ks1) w' (by omega) (by rw [← hx]; exact HQ.out _ (List.getElem_mem hlt)) (IsV.below ⟨k1, t1, i1, s1, l1, ks1, av1, c1, kv1, kc1, rfl, rfl, q0, q1, q2, q3, q4, q5, q6, q7, q8, q9, hs1, hl1⟩ hb)
            rw [← HF.out m rfl] at h
            exact h)
          have hnx := maxL_take f l j _ h0
          have hn17 := HMX.out (j + 1)
          rw [← HN.out] at hnx
          obtain ⟨X, hX⟩ : ∃ X, X = f (.mk k1 t1 i1 s1 l1 ks1) := ⟨_, rfl⟩
          rw [← hX] at F hnx
          have hX16 : X ≤ 16 := by omega
          have hjI : (j : Int) < (l.length : Int) := by omega
          have hj00 : (0 : Int) ≤ (j : Int) := by omega
          have HNX := Lib.hid hnx
          clear e0 e1 e2 e3 e4 e5 q0 q1 q2 q3 q4 q5 q6 q7 q8 q9 hs1 hl1 h2 h0 hx hX hnx hn17
          go_wp2_with fail
          go_fit (F.out _ HB.out)
          rintro e w2 ⟨rfl, hb2⟩
          have B2 := Lib.hid (HB.out.trans (hb2.mono HB.out.size))
          have C2 := Lib.hid (C.out.below hb2)
          clear hb2 p0 p1 p2 p3 p4 p5 a4
          by_cases hc : N < 1 + X
          · have hcI : (N : Int) < 1 + (X : Int) := by omega
            go_wp2_with fail
            exact ⟨⟨j + 1, 1 + X, by omega, by go_num, by go_num, by omega, Lib.hid (by rw [HNX.out]; omega), C2, B2⟩, by simp [RowKit.intOf]; omega⟩
          · have hcI : ¬ (N : Int) < 1 + (X : Int) := by omega
            go_wp2_with fail
            exact ⟨⟨j + 1, N, by omega, by go_num, by go_num, by omega, Lib.hid (by rw [HNX.out]; omega), C2, B2⟩, by simp [RowKit.intOf]; omega⟩
        · obtain rfl : j = l.length := by omega
          have hjI : ¬ (l.length : Int) < (l.length : Int) := by omega
          have E := Lib.hid (show N = maxL f l by rw [HN.out, List.take_length])
          clear hlt
          go_wp2_with fail
          go_ret
          exact ⟨by rw [E.out]; rfl, HB.out⟩
    · rw [if_pos (by decide)] at hlv ⊢
      have HL := Lib.hid hl
      have HI := Lib.hid ih
      have HF := Lib.hid hm
      have HQ := Lib.hid a11
      have hmono : ∀ j y, l[j]? = some y → 1 + f y ≤ maxL f (l.take (j + 1)) := fun j y h => by rw [maxL_take f l j y h]; omega
      have C0 := Lib.hid (CellsAt.new w 25 #[.int .i64 5, .bool t, .int .i64 i, .string s, .slice av l.length c, .slice kv ks.length kc])
      have B0 := Lib.hid ((Below.refl w.heap.size w).alloc (Nat.le_refl _) (.cells #[.int .i64 5, .bool t, .int .i64 i, .string s, .slice av l.length c, .slice kv ks.length kc] 25))
      have HMX := Lib.hid (show ∀ j, maxL f (l.take j) ≤ 17 from fun j => by
        have h1 := Nat.le_trans (max_take f l j) hlv
        omega)
      clear hs hl ih hm a11 hq he hlv a3 a9 a10 hfit hmono
      go_enter Tryz.func49, Tryz.ntmps49
      go_wp2_with fail
      go_loopw [3, 4] (fun s3 s4 wr => ∃ (j N : Nat), j ≤ l.length ∧ s4 = .int .i64 (j : Int) ∧ s3 = .int .i64 (N : Int) ∧ N ≤ 17 ∧ Hid (N = maxL f (l.take j)) ∧ Hid (CellsAt wr w.heap.size 25 #[.int .i64 5, .bool t, .int .i64 i, .string s, .slice av l.length c, .slice kv ks.length kc]) ∧ Hid (Below w.heap.size w wr)) (fun _ s4 _ => l.length - (RowKit.intOf s4).toNat)
      case atStart => exact ⟨0, 2, by omega, rfl, rfl, by omega, Lib.hid rfl, C0, B0⟩
      case round =>
        obtain ⟨j, N, hj, rfl, rfl, hN17, HN, C, HB⟩ := hrel
        clear C0 B0
        have a4 : wr.cell? ⟨w.heap.size, 4, none⟩ = some (.slice av l.length c) := C.out.cell rfl
        by_cases hlt : j < l.length
        · cases m with
          | zero => exact absurd hlt (by have h : l = [] := HL.out; rw [h]; simp)
          | succ m =>
          obtain ⟨b, off, k1, t1, i1, s1, l1, ks1, av1, c1, kv1, kc1, h0, rfl, h2, e0, e1, e2, e3, e4, e5, q0, q1, q2, q3, q4, q5, q6, q7, q8, q9, hs1, hl1⟩ := HL.out j hlt
          have hx : l[j] = .mk k1 t1 i1 s1 l1 ks1 := (List.getElem?_eq_some_iff.1 h0).2
          have p0 := (HB.out.cell (p := ⟨b, _, none⟩) h2).trans e0
          have p1 := (HB.out.cell (p := ⟨b, _, none⟩) h2).trans e1
          have p2 := (HB.out.cell (p := ⟨b, _, none⟩) h2).trans e2
          have p3 := (HB.out.cell (p := ⟨b, _, none⟩) h2).trans e3
          have p4 := (HB.out.cell (p := ⟨b, _, none⟩) h2).trans e4
          have p5 := (HB.out.cell (p := ⟨b, _, none⟩) h2).trans e5
          have F := Lib.hid (fun w' (hb : Below w.heap.size w w') => by
            have h := HI.out m (by omega) q (.agg #[.int .i64 k1, .bool t1, .int .i64 i1, .string s1, .slice av1 l1.length c1, .slice kv1 ks1.length kc1]) (.mk k1 t1 i1 s1 l1 ks1) w' (by omega) (by rw [← hx]; exact HQ.out _ (List.getElem_mem hlt)) (IsV.below ⟨k1, t1, i1, s1, l1, ks1, av1, c1, kv1, kc1, rfl, rfl, q0, q1, q2, q3, q4, q5, q6, q7, q8, q9, hs1, hl1⟩ hb)
            rw [← HF.out m rfl] at h
            exact h)
          have hnx := maxL_take f l j _ h0
          have hn17 := HMX.out (j + 1)
          rw [← HN.out] at hnx
          obtain ⟨X, hX⟩ : ∃ X, X = f (.mk k1 t1 i1 s1 l1 ks1) := ⟨_, rfl⟩
          rw [← hX] at F hnx
          have hX16 : X ≤ 16 := by omega
          have hjI : (j : Int) < (l.length : Int) := by omega
          have hj00 : (0 : Int) ≤ (j : Int) := by omega
          have HNX := Lib.hid hnx
          clear e0 e1 e2 e3 e4 e5 q0 q1 q2 q3 q4 q5 q6 q7 q8 q9 hs1 hl1 h2 h0 hx hX hnx hn17
          go_wp2_with fail
          go_fit (F.out _ HB.out)
          rintro e w2 ⟨rfl, hb2⟩
          have B2 := Lib.hid (HB.out.trans (hb2.mono HB.out.size))
          have C2 := Lib.hid (C.out.below hb2)
          clear hb2 p0 p1 p2 p3 p4 p5 a4
          by_cases hc : N < 1 + X
          · have hcI : (N : Int) < 1 + (X : Int) := by omega
            go_wp2_with fail
            exact ⟨⟨j + 1, 1 + X, by omega, by go_num, by go_num, by omega, Lib.hid (by rw [HNX.out]; omega), C2, B2⟩, by simp [RowKit.intOf]; omega⟩
          · have hcI : ¬ (N : Int) < 1 + (X : Int) := by omega
            go_wp2_with fail
            exact ⟨⟨j + 1, N, by omega, by go_num, by go_num, by omega, Lib.hid (by rw [HNX.out]; omega), C2, B2⟩, by simp [RowKit.intOf]; omega⟩
        · obtain rfl : j = l.length := by omega
          have hjI : ¬ (l.length : Int) < (l.length : Int) := by omega
          have E := Lib.hid (show N = maxL f l by rw [HN.out, List.take_length])
          clear hlt
          go_wp2_with fail
          go_ret
          exact ⟨by rw [E.out]; rfl, HB.out⟩

set_option maxRecDepth 100000 in
set_option maxHeartbeats 8000000 in
/-- Get of the document. -/
theorem rGet_any (m : Nat) (V : Value) (x : Vl) (key : ByteArray) (w : World) (hV : IsV m w V x) :
    Calls Tryz.prog 26 #[V, .string key] w fun e w' => ∃ R, e = .returned (.tuple #[R, .bool (getV x key.data.toList).isSome]) ∧ IsV m w' R ((getV x key.data.toList).getD zeroV) ∧ Below w.heap.size w w' := by
  obtain ⟨k, t, i, s, l, ks, av, c, kv, kc, rfl, rfl, g0, g1, g2, g3, g4, g5, g6, g7, g8, g9, hs, hl⟩ := hV
  have hkl : ks.length ≤ 9223372036854775000 := by omega
  by_cases hk : k = 5
  · subst hk
    have HS := Lib.hid hs
    have HL := Lib.hid hl
    have HG := Lib.hid (show getV (.mk 5 t i s l ks) key.data.toList = (firstK ks key.data.toList).bind (fun i => l[i]?) by rw [getV, if_pos rfl])
    obtain ⟨GV, hGV⟩ : ∃ GV, GV = getV (.mk 5 t i s l ks) key.data.toList := ⟨_, rfl⟩
    rw [← hGV] at HG ⊢
    clear hs hl hGV g9
    have C0 := (CellsAt.new w 25 #[.int .i64 5, .bool t, .int .i64 i, .string s, .slice av l.length c, .slice kv ks.length kc]).alloc (.cells #[.int .i64 0, .bool false, .int .i64 0, .string ⟨#[]⟩, .slice none 0 0, .slice none 0 0] 25)
    have Z0 := CellsAt.new (w.alloc (.cells #[.int .i64 5, .bool t, .int .i64 i, .string s, .slice av l.length c, .slice kv ks.length kc] 25)) 25 #[.int .i64 0, .bool false, .int .i64 0, .string ⟨#[]⟩, .slice none 0 0, .slice none 0 0]
    simp only [World.size_alloc] at Z0
    have B0 : Below w.heap.size w ((w.alloc (.cells #[.int .i64 5, .bool t, .int .i64 i, .string s, .slice av l.length c, .slice kv ks.length kc] 25)).alloc (.cells #[.int .i64 0, .bool false, .int .i64 0, .string ⟨#[]⟩, .slice none 0 0, .slice none 0 0] 25)) := ((Below.refl w.heap.size w).alloc (Nat.le_refl _) _).alloc (by simp) _
    go_enter Tryz.func26, Tryz.ntmps26
    go_wp2_with fail
    have C0 := Lib.hid C0
    have Z0 := Lib.hid Z0
    have B0 := Lib.hid B0
    go_loopw [6] (fun s3 wr => ∃ (j : Nat), j ≤ ks.length ∧ s3 = .int .i64 (j : Int) ∧ Hid (firstK ks key.data.toList = (firstK (ks.drop j) key.data.toList).map (· + j)) ∧ Hid (CellsAt wr w.heap.size 25 #[.int .i64 5, .bool t, .int .i64 i, .string s, .slice av l.length c, .slice kv ks.length kc]) ∧ Hid (CellsAt wr (w.heap.size + 1) 25 #[.int .i64 0, .bool false, .int .i64 0, .string ⟨#[]⟩, .slice none 0 0, .slice none 0 0]) ∧ Hid (Below w.heap.size w wr)) (fun s3 _ => ks.length - (RowKit.intOf s3).toNat)
    case atStart => exact ⟨0, by omega, rfl, Lib.hid (by simp), C0, Z0, B0⟩
    case round =>
      obtain ⟨j, hj, rfl, HD, C, Z, HB⟩ := hrel
      clear C0 Z0 B0
      have b4 : wr.cell? ⟨w.heap.size, 4, none⟩ = some (.slice av l.length c) := C.out.cell rfl
      have b5 : wr.cell? ⟨w.heap.size, 5, none⟩ = some (.slice kv ks.length kc) := C.out.cell rfl
      have hzl : w.heap.size + 1 < wr.heap.size := Z.out.lt
      by_cases hlt : j < ks.length
      · obtain ⟨bk, offk, rfl, hk2, ek⟩ := HS.out j hlt
        have pk := (HB.out.cell (p := ⟨bk, _, none⟩) hk2).trans ek
        have hfd := firstK_drop ks key.data.toList j hlt
        rw [← HD.out] at hfd
        have hq : ((⟨ks[j].toArray⟩ : ByteArray).toList == key.toList) = decide (ks[j] = key.data.toList) := by rw [Lib.toList_data, Lib.toList_data, Bool.eq_iff_iff, beq_iff_eq, decide_eq_true_iff]
        generalize (⟨ks[j].toArray⟩ : ByteArray) = kx at pk hq
        have hjI : (j : Int) < (ks.length : Int) := by omega
        have hj0 : (0 : Int) ≤ (j : Int) := by omega
        by_cases hkey : ks[j] = key.data.toList
        · rw [if_pos hkey] at hfd
          rw [decide_eq_true hkey] at hq
          clear hkey ek hk2
          by_cases hlt2 : j < l.length
          · have E := Lib.hid (show GV = some l[j] by rw [HG.out, hfd]; simp [hlt2])
            have hjI2 : ¬ ((l.length : Int) ≤ (j : Int)) := by omega
            have hjI3 : (j : Int) < (l.length : Int) := by omega
            cases m with
            | zero => exact absurd hlt2 (by have h : l = [] := HL.out; rw [h]; simp)
            | succ m =>
            obtain ⟨b, off, k1, t1, i1, s1, l1, ks1, av1, c1, kv1, kc1, h0, rfl, h2, e0, e1, e2, e3, e4, e5, r0, r1, r2, r3, r4, r5, r6, r7, r8, r9, rs, rv⟩ := HL.out j hlt2
            have hx : l[j] = .mk k1 t1 i1 s1 l1 ks1 := (List.getElem?_eq_some_iff.1 h0).2
            rw [hx] at E
            have y0 := (HB.out.cell (p := ⟨b, _, none⟩) h2).trans e0
            have y1 := (HB.out.cell (p := ⟨b, _, none⟩) h2).trans e1
            have y2 := (HB.out.cell (p := ⟨b, _, none⟩) h2).trans e2
            have y3 := (HB.out.cell (p := ⟨b, _, none⟩) h2).trans e3
            have y4 := (HB.out.cell (p := ⟨b, _, none⟩) h2).trans e4
            have y5 := (HB.out.cell (p := ⟨b, _, none⟩) h2).trans e5
            have HI := Lib.hid (show IsV (m + 1) w (.agg #[.int .i64 k1, .bool t1, .int .i64 i1, .string s1, .slice av1 l1.length c1, .slice kv1 ks1.length kc1]) (.mk k1 t1 i1 s1 l1 ks1) from isV_up (Nat.le_succ m) ⟨k1, t1, i1, s1, l1, ks1, av1, c1, kv1, kc1, rfl, rfl, r0, r1, r2, r3, r4, r5, r6, r7, r8, r9, rs, rv⟩)
            clear e0 e1 e2 e3 e4 e5 r0 r1 r2 r3 r4 r5 r6 r7 r8 r9 rs rv hx h0 hfd
            have z0 : wr.cell? ⟨w.heap.size + 1, 0, none⟩ = some (.int .i64 0) := Z.out.cell rfl
            have z1 : wr.cell? ⟨w.heap.size + 1, 1, none⟩ = some (.bool false) := Z.out.cell rfl
            have z2 : wr.cell? ⟨w.heap.size + 1, 2, none⟩ = some (.int .i64 0) := Z.out.cell rfl
            have z3 : wr.cell? ⟨w.heap.size + 1, 3, none⟩ = some (.string ⟨#[]⟩) := Z.out.cell rfl
            have z4 : wr.cell? ⟨w.heap.size + 1, 4, none⟩ = some (.slice none 0 0) := Z.out.cell rfl
            have z5 : wr.cell? ⟨w.heap.size + 1, 5, none⟩ = some (.slice none 0 0) := Z.out.cell rfl
            have zf := Z.out.frozen
            go_wp2_with fail
            obtain ⟨W3, hW3⟩ : ∃ W3, W3 = ((((((wr.setCell ⟨w.heap.size + 1, 0, none⟩ (.int .i64 k1)).setCell ⟨w.heap.size + 1, 1, none⟩ (.bool t1)).setCell ⟨w.heap.size + 1, 2, none⟩ (.int .i64 i1)).setCell ⟨w.heap.size + 1, 3, none⟩ (.string s1)).setCell ⟨w.heap.size + 1, 4, none⟩ (.slice av1 l1.length c1)).setCell ⟨w.heap.size + 1, 5, none⟩ (.slice kv1 ks1.length kc1)) := ⟨_, rfl⟩
            rw [← hW3]
            obtain ⟨⟨cs', G4, h1, h2⟩, h3, h4, h5⟩ := six_set Z.out 0 _ _ _ _ _ _ W3 hW3
            obtain ⟨q0, q1, q2, q3, q4, q5⟩ := h1 (by decide)
            have u0 : W3.cell? ⟨w.heap.size + 1, 0, none⟩ = _ := G4.cell q0
            have u1 : W3.cell? ⟨w.heap.size + 1, 1, none⟩ = _ := G4.cell q1
            have u2 : W3.cell? ⟨w.heap.size + 1, 2, none⟩ = _ := G4.cell q2
            have u3 : W3.cell? ⟨w.heap.size + 1, 3, none⟩ = _ := G4.cell q3
            have u4 : W3.cell? ⟨w.heap.size + 1, 4, none⟩ = _ := G4.cell q4
            have u5 : W3.cell? ⟨w.heap.size + 1, 5, none⟩ = _ := G4.cell q5
            have hB := h5 w.heap.size w (by omega) HB.out
            rw [E.out]
            exact bodyPost_ret (v := .tuple #[.agg #[.int .i64 k1, .bool t1, .int .i64 i1, .string s1, .slice av1 l1.length c1, .slice kv1 ks1.length kc1], .bool true]) (by simp [results, Tryz.f26, go_sem, u0, u1, u2, u3, u4, u5]) rfl ⟨_, rfl, HI.out.below (hB), hB⟩
          · have E := Lib.hid (show GV = none by rw [HG.out, hfd]; simp; omega)
            have hjI2 : ((l.length : Int) ≤ (j : Int)) := by omega
            clear hfd
            have z0 : wr.cell? ⟨w.heap.size + 1, 0, none⟩ = some (.int .i64 0) := Z.out.cell rfl
            have z1 : wr.cell? ⟨w.heap.size + 1, 1, none⟩ = some (.bool false) := Z.out.cell rfl
            have z2 : wr.cell? ⟨w.heap.size + 1, 2, none⟩ = some (.int .i64 0) := Z.out.cell rfl
            have z3 : wr.cell? ⟨w.heap.size + 1, 3, none⟩ = some (.string ⟨#[]⟩) := Z.out.cell rfl
            have z4 : wr.cell? ⟨w.heap.size + 1, 4, none⟩ = some (.slice none 0 0) := Z.out.cell rfl
            have z5 : wr.cell? ⟨w.heap.size + 1, 5, none⟩ = some (.slice none 0 0) := Z.out.cell rfl
            have zf := Z.out.frozen
            go_wp2_with fail
            obtain ⟨W3, hW3⟩ : ∃ W3, W3 = ((((((wr.setCell ⟨w.heap.size + 1, 0, none⟩ (.int .i64 0)).setCell ⟨w.heap.size + 1, 1, none⟩ (.bool false)).setCell ⟨w.heap.size + 1, 2, none⟩ (.int .i64 0)).setCell ⟨w.heap.size + 1, 3, none⟩ (.string ⟨#[]⟩)).setCell ⟨w.heap.size + 1, 4, none⟩ (.slice none 0 0)).setCell ⟨w.heap.size + 1, 5, none⟩ (.slice none 0 0)) := ⟨_, rfl⟩
            rw [← hW3]
            obtain ⟨⟨cs', G4, h1, h2⟩, h3, h4, h5⟩ := six_set Z.out 0 _ _ _ _ _ _ W3 hW3
            obtain ⟨q0, q1, q2, q3, q4, q5⟩ := h1 (by decide)
            have u0 : W3.cell? ⟨w.heap.size + 1, 0, none⟩ = _ := G4.cell q0
            have u1 : W3.cell? ⟨w.heap.size + 1, 1, none⟩ = _ := G4.cell q1
            have u2 : W3.cell? ⟨w.heap.size + 1, 2, none⟩ = _ := G4.cell q2
            have u3 : W3.cell? ⟨w.heap.size + 1, 3, none⟩ = _ := G4.cell q3
            have u4 : W3.cell? ⟨w.heap.size + 1, 4, none⟩ = _ := G4.cell q4
            have u5 : W3.cell? ⟨w.heap.size + 1, 5, none⟩ = _ := G4.cell q5
            have hB := h5 w.heap.size w (by omega) HB.out
            rw [E.out]
            exact bodyPost_ret (v := .tuple #[.agg #[.int .i64 0, .bool false, .int .i64 0, .string ⟨#[]⟩, .slice none 0 0, .slice none 0 0], .bool false]) (by simp [results, Tryz.f26, go_sem, u0, u1, u2, u3, u4, u5]) rfl ⟨_, rfl, isV_zero _ _, hB⟩
        · rw [if_neg hkey] at hfd
          rw [decide_eq_false hkey] at hq
          have HFD := Lib.hid hfd
          clear hfd hkey ek hk2
          go_wp2_with fail
          exact ⟨⟨j + 1, by omega, by go_num, HFD, C, Z, HB⟩, by simp [RowKit.intOf]; omega⟩
      · obtain rfl : j = ks.length := by omega
        have hjI : ¬ (ks.length : Int) < (ks.length : Int) := by omega
        have E := Lib.hid (show GV = none by rw [HG.out, HD.out, firstK_end]; rfl)
        clear hlt
        have z0 : wr.cell? ⟨w.heap.size + 1, 0, none⟩ = some (.int .i64 0) := Z.out.cell rfl
        have z1 : wr.cell? ⟨w.heap.size + 1, 1, none⟩ = some (.bool false) := Z.out.cell rfl
        have z2 : wr.cell? ⟨w.heap.size + 1, 2, none⟩ = some (.int .i64 0) := Z.out.cell rfl
        have z3 : wr.cell? ⟨w.heap.size + 1, 3, none⟩ = some (.string ⟨#[]⟩) := Z.out.cell rfl
        have z4 : wr.cell? ⟨w.heap.size + 1, 4, none⟩ = some (.slice none 0 0) := Z.out.cell rfl
        have z5 : wr.cell? ⟨w.heap.size + 1, 5, none⟩ = some (.slice none 0 0) := Z.out.cell rfl
        have zf := Z.out.frozen
        go_wp2_with fail
        obtain ⟨W3, hW3⟩ : ∃ W3, W3 = ((((((wr.setCell ⟨w.heap.size + 1, 0, none⟩ (.int .i64 0)).setCell ⟨w.heap.size + 1, 1, none⟩ (.bool false)).setCell ⟨w.heap.size + 1, 2, none⟩ (.int .i64 0)).setCell ⟨w.heap.size + 1, 3, none⟩ (.string ⟨#[]⟩)).setCell ⟨w.heap.size + 1, 4, none⟩ (.slice none 0 0)).setCell ⟨w.heap.size + 1, 5, none⟩ (.slice none 0 0)) := ⟨_, rfl⟩
        rw [← hW3]
        obtain ⟨⟨cs', G4, h1, h2⟩, h3, h4, h5⟩ := six_set Z.out 0 _ _ _ _ _ _ W3 hW3
        obtain ⟨q0, q1, q2, q3, q4, q5⟩ := h1 (by decide)
        have u0 : W3.cell? ⟨w.heap.size + 1, 0, none⟩ = _ := G4.cell q0
        have u1 : W3.cell? ⟨w.heap.size + 1, 1, none⟩ = _ := G4.cell q1
        have u2 : W3.cell? ⟨w.heap.size + 1, 2, none⟩ = _ := G4.cell q2
        have u3 : W3.cell? ⟨w.heap.size + 1, 3, none⟩ = _ := G4.cell q3
        have u4 : W3.cell? ⟨w.heap.size + 1, 4, none⟩ = _ := G4.cell q4
        have u5 : W3.cell? ⟨w.heap.size + 1, 5, none⟩ = _ := G4.cell q5
        have hB := h5 w.heap.size w (by omega) HB.out
        rw [E.out]
        exact bodyPost_ret (v := .tuple #[.agg #[.int .i64 0, .bool false, .int .i64 0, .string ⟨#[]⟩, .slice none 0 0, .slice none 0 0], .bool false]) (by simp [results, Tryz.f26, go_sem, u0, u1, u2, u3, u4, u5]) rfl ⟨_, rfl, isV_zero _ _, hB⟩
  · have E := Lib.hid (show getV (.mk k t i s l ks) key.data.toList = none by rw [getV, if_neg hk])
    have g : (k != 5) = true := by simpa using hk
    clear hs hl g9 hk
    have C0 := (CellsAt.new w 25 #[.int .i64 k, .bool t, .int .i64 i, .string s, .slice av l.length c, .slice kv ks.length kc]).alloc (.cells #[.int .i64 0, .bool false, .int .i64 0, .string ⟨#[]⟩, .slice none 0 0, .slice none 0 0] 25)
    have Z0 := CellsAt.new (w.alloc (.cells #[.int .i64 k, .bool t, .int .i64 i, .string s, .slice av l.length c, .slice kv ks.length kc] 25)) 25 #[.int .i64 0, .bool false, .int .i64 0, .string ⟨#[]⟩, .slice none 0 0, .slice none 0 0]
    simp only [World.size_alloc] at Z0
    have B0 : Below w.heap.size w ((w.alloc (.cells #[.int .i64 k, .bool t, .int .i64 i, .string s, .slice av l.length c, .slice kv ks.length kc] 25)).alloc (.cells #[.int .i64 0, .bool false, .int .i64 0, .string ⟨#[]⟩, .slice none 0 0, .slice none 0 0] 25)) := ((Below.refl w.heap.size w).alloc (Nat.le_refl _) _).alloc (by simp) _
    go_enter Tryz.func26, Tryz.ntmps26
    have z0 : ((w.alloc (.cells #[.int .i64 k, .bool t, .int .i64 i, .string s, .slice av l.length c, .slice kv ks.length kc] 25)).alloc (.cells #[.int .i64 0, .bool false, .int .i64 0, .string ⟨#[]⟩, .slice none 0 0, .slice none 0 0] 25)).cell? ⟨w.heap.size + 1, 0, none⟩ = some (.int .i64 0) := Z0.cell rfl
    have z1 : ((w.alloc (.cells #[.int .i64 k, .bool t, .int .i64 i, .string s, .slice av l.length c, .slice kv ks.length kc] 25)).alloc (.cells #[.int .i64 0, .bool false, .int .i64 0, .string ⟨#[]⟩, .slice none 0 0, .slice none 0 0] 25)).cell? ⟨w.heap.size + 1, 1, none⟩ = some (.bool false) := Z0.cell rfl
    have z2 : ((w.alloc (.cells #[.int .i64 k, .bool t, .int .i64 i, .string s, .slice av l.length c, .slice kv ks.length kc] 25)).alloc (.cells #[.int .i64 0, .bool false, .int .i64 0, .string ⟨#[]⟩, .slice none 0 0, .slice none 0 0] 25)).cell? ⟨w.heap.size + 1, 2, none⟩ = some (.int .i64 0) := Z0.cell rfl
    have z3 : ((w.alloc (.cells #[.int .i64 k, .bool t, .int .i64 i, .string s, .slice av l.length c, .slice kv ks.length kc] 25)).alloc (.cells #[.int .i64 0, .bool false, .int .i64 0, .string ⟨#[]⟩, .slice none 0 0, .slice none 0 0] 25)).cell? ⟨w.heap.size + 1, 3, none⟩ = some (.string ⟨#[]⟩) := Z0.cell rfl
    have z4 : ((w.alloc (.cells #[.int .i64 k, .bool t, .int .i64 i, .string s, .slice av l.length c, .slice kv ks.length kc] 25)).alloc (.cells #[.int .i64 0, .bool false, .int .i64 0, .string ⟨#[]⟩, .slice none 0 0, .slice none 0 0] 25)).cell? ⟨w.heap.size + 1, 4, none⟩ = some (.slice none 0 0) := Z0.cell rfl
    have z5 : ((w.alloc (.cells #[.int .i64 k, .bool t, .int .i64 i, .string s, .slice av l.length c, .slice kv ks.length kc] 25)).alloc (.cells #[.int .i64 0, .bool false, .int .i64 0, .string ⟨#[]⟩, .slice none 0 0, .slice none 0 0] 25)).cell? ⟨w.heap.size + 1, 5, none⟩ = some (.slice none 0 0) := Z0.cell rfl
    go_wp2_with fail
    rw [E.out]
    exact bodyPost_ret (v := .tuple #[.agg #[.int .i64 0, .bool false, .int .i64 0, .string ⟨#[]⟩, .slice none 0 0, .slice none 0 0], .bool false]) (by simp [results, Tryz.f26, go_sem, z0, z1, z2, z3, z4, z5]) rfl ⟨_, rfl, isV_zero _ _, B0⟩
end Go.Proofs.YtabopneehhnhfaaGreatDoor
