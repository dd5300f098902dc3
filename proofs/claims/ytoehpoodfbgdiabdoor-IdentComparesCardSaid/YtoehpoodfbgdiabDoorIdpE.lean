/- The contracts of the program's Parent, isPath and Within (ident). -/
import Derived.Test.YtoehpoodfbgdiabDoorIdpD
namespace Go.Proofs.YtoehpoodfbgdiabDoor
open Go.RowKit Go.Lib

set_option maxRecDepth 100000 in
theorem sl_last (ad : Addr) (n cap : Nat) (h : 1 ≤ n) (hc : n ≤ cap) (w : World) : (Instr.sliceAt 27 (.slice (some ad) n cap) none (some (.int .i64 ((n : Int) - 1))) none).run Tryd.prog w = .ok (.slice (some ad) (n - 1) cap) w := by
  rw [run_sliceAt_slice _ _ _ _ _ _ Tryd.underlying27, run_slice_h _ _ _ _ _ Tryd.underlying27 .i64 ((n : Int) - 1) (by omega) (by omega)]
  have hs : (sizeOf (Tryd.prog.elem 27)).run Tryd.prog w = .ok 1 w := by kernel_rfl
  have e : ((n : Int) - 1).toNat = n - 1 := by omega
  rw [hs]
  simp only [Result.andThen, sliced, e]
  congr 2
  split
  · rfl
  · simp [Addr.add]

set_option maxHeartbeats 4000000 in
set_option maxRecDepth 100000 in
theorem idParent_any (s : ByteArray) (hs : s.size ≤ 1099511627776) (w : World) (hT : Tab4 w) :
    Calls Tryd.prog 19 #[.string s] w fun e w' => e = .returned (.tuple #[.string ⟨(parentR s.data.toList).1.toArray⟩, .bool (parentR s.data.toList).2]) ∧ Below w.heap.size w w' := by
  have P := Lib.hid (idParts_any s hs w hT)
  unfold PartsPost at P
  clear hT
  have hok := fun h => partsR_ok (l := s.data.toList) h
  have hdef : parentR s.data.toList = if (partsR s.data.toList).2 ≠ 0 ∨ (partsR s.data.toList).1.length < 2 then ([], false) else (joinP (partsR s.data.toList).1.dropLast, true) := rfl
  have hsp := split_at s.data.toList []
  have hln := splitOn_len s.data.toList []
  obtain ⟨L, hL⟩ : ∃ L, L = (partsR s.data.toList).1 := ⟨_, rfl⟩
  obtain ⟨k, hk⟩ : ∃ k, k = (partsR s.data.toList).2 := ⟨_, rfl⟩
  rw [← hL, ← hk] at P hdef hok
  by_cases h0 : k = 0
  · obtain ⟨h1, h2, h3⟩ := hok h0
    have hl1 : 1 ≤ L.length := by
      rw [h1, hsp]
      split <;> simp
    have hl2 : L.length ≤ 513 := by rw [h1]; omega
    rw [← h1] at h2
    clear hok hsp hln hL h1 hk h3
    subst h0
    by_cases hone : L.length = 1
    · have HF := Lib.hid (show parentR s.data.toList = ([], false) by rw [hdef, if_pos (.inr (by omega))])
      have g1 : ((L.length : Int) == 1) = true := by rw [beq_iff_eq]; omega
      clear hdef h2 hl1 hl2 hone
      go_enter Tryd.func19, Tryd.ntmps19
      go_wp2_with fail
      go_fit P.out
      rintro e w1 ⟨a, c, rfl, hb, hr, hc, hm⟩
      have B := Lib.hid hb
      clear hb hr hc hm
      go_wp2_with fail
      go_ret2
      exact ⟨by rw [HF.out]; rfl, B.out⟩
    · have HF := Lib.hid (show parentR s.data.toList = (joinP L.dropLast, true) by rw [hdef, if_neg (by omega)])
      have g1 : ((L.length : Int) == 1) = false := by rw [beq_eq_false_iff_ne]; omega
      have hdl : L.dropLast.length = L.length - 1 := List.length_dropLast
      have hall : L.dropLast.all nameB = true := by
        rw [List.all_eq_true] at h2 ⊢
        exact fun x hx => h2 x ((List.dropLast_sublist L).mem hx)
      have hjl := joinP_len L.dropLast
      have hls := lenS_le hall
      have HL := Lib.hid (show 2 ≤ L.length ∧ L.length ≤ 513 from ⟨by omega, hl2⟩)
      have J := Lib.hid (fun ad cap w hc hr => joinS_any (some ad) cap L.dropLast (by omega) (by omega) hc (by omega) w hr)
      rw [hdl] at J
      have l0 : (2 : Int) ≤ L.length ∧ (L.length : Int) ≤ 513 := by omega
      clear hdef h2 hl1 hl2 hone hall hjl hls hdl
      go_enter Tryd.func19, Tryd.ntmps19
      go_wp2_with fail
      go_fit P.out
      rintro e w1 ⟨a, c, rfl, hb, hr, hc, hm⟩
      obtain ⟨b, off, rfl, hbl, _⟩ := hr 0 (by have := HL.out; omega)
      have B := Lib.hid hb
      have hslc := sl_last ⟨b, off, none⟩ L.length c (by have := HL.out; omega) hc w1
      have R1 := Lib.hid (show ReadsStr w1 (some ⟨b, off, none⟩) L.dropLast from fun k hk => by
        rw [List.length_dropLast] at hk
        obtain ⟨b', o', e, h1, h2⟩ := hr k (by omega)
        refine ⟨b', o', e, h1, ?_⟩
        rw [h2, List.getElem_dropLast])
      have J1 := Lib.hid (J.out _ c w1 (by omega) R1.out)
      clear hb hr hc hm
      go_wp2_with fail
      go_fit J1.out
      rintro e w2 ⟨rfl, hb⟩
      have B2 := Lib.hid (B.out.trans (hb.mono B.out.size))
      clear hb
      go_wp2_with fail
      go_ret2
      exact ⟨by rw [HF.out]; rfl, B2.out⟩
  · have HF := Lib.hid (show parentR s.data.toList = ([], false) by rw [hdef, if_pos (.inl h0)])
    have g1 : ((k : Int) != 0) = true := by rw [bne_iff_ne]; omega
    clear hok hsp hln hL h0 hk hdef
    go_enter Tryd.func19, Tryd.ntmps19
    go_wp2_with fail
    go_fit P.out
    rintro e w1 ⟨a, c, rfl, hb, hr, hc, hm⟩
    have B := Lib.hid hb
    clear hb hr hc hm
    go_wp2_with fail
    go_ret2
    exact ⟨by rw [HF.out]; rfl, B.out⟩

theorem idIsPath_any (s : ByteArray) (hs : s.size ≤ 1099511627776) (w : World) (hT : Tab4 w) :
    Calls Tryd.prog 38 #[.string s] w fun e w' => e = .returned (.bool (decide ((partsR s.data.toList).2 = 0))) ∧ Below w.heap.size w w' := by
  have P := Lib.hid (idParts_any s hs w hT)
  unfold PartsPost at P
  clear hT
  obtain ⟨L, hL⟩ : ∃ L, L = (partsR s.data.toList).1 := ⟨_, rfl⟩
  obtain ⟨k, hk⟩ : ∃ k, k = (partsR s.data.toList).2 := ⟨_, rfl⟩
  rw [← hL, ← hk] at P
  have HK := Lib.hid (show decide ((partsR s.data.toList).2 = 0) = decide (k = 0) by rw [hk])
  have g1 : ((k : Int) == 0) = decide (k = 0) := by
    by_cases h : k = 0
    · subst h; rfl
    · rw [decide_eq_false h, beq_eq_false_iff_ne]; omega
  clear hL hk
  generalize decide (k = 0) = q at HK g1
  go_enter Tryd.func38, Tryd.ntmps38
  go_wp2_with fail
  go_fit P.out
  rintro e w1 ⟨a, c, rfl, hb, hr, hc, hm⟩
  have B := Lib.hid hb
  clear hb hr hc hm
  go_wp2_with fail
  go_ret
  exact ⟨by rw [HK.out]; rfl, B.out⟩

/-- Each part with a slash behind it. -/
def trail (L : List (List UInt8)) : List UInt8 := L.flatMap fun x => x ++ [47]
theorem trail_slash : ∀ L : List (List UInt8), slashP L ++ [47] = 47 :: trail L
  | [] => rfl
  | x :: r => by
    have ih := trail_slash r
    simp only [slashP, trail, List.flatMap_cons] at ih ⊢
    rw [List.append_assoc, ih]
    simp
theorem trail_join {L : List (List UInt8)} (h : 0 < L.length) : joinP L ++ [47] = trail L := by
  have h1 := slashP_pos L h
  have h2 := trail_slash L
  unfold joinP
  rw [← List.drop_append_of_le_length h1, h2]
  rfl
theorem pre_cons : ∀ (x y t u : List UInt8), 47 ∉ x → 47 ∉ y → ((y ++ 47 :: t) <+: (x ++ 47 :: u) ↔ y = x ∧ t <+: u)
  | [], [], t, u, _, _ => by simp [List.cons_prefix_cons]
  | c :: x, [], t, u, hx, _ => by
    simp only [List.nil_append, List.cons_append, List.cons_prefix_cons]
    constructor
    · rintro ⟨rfl, _⟩; simp at hx
    · rintro ⟨h, _⟩; cases h
  | [], d :: y, t, u, _, hy => by
    simp only [List.nil_append, List.cons_append, List.cons_prefix_cons]
    constructor
    · rintro ⟨rfl, _⟩; simp at hy
    · rintro ⟨h, _⟩; cases h
  | c :: x, d :: y, t, u, hx, hy => by
    simp only [List.cons_append, List.cons_prefix_cons, List.cons.injEq]
    rw [pre_cons x y t u (fun h => hx (List.mem_cons_of_mem _ h)) (fun h => hy (List.mem_cons_of_mem _ h))]
    exact ⟨fun ⟨a, b, c⟩ => ⟨⟨a, b⟩, c⟩, fun ⟨⟨a, b⟩, c⟩ => ⟨a, b, c⟩⟩
theorem trail_pre : ∀ (A B : List (List UInt8)), (∀ x ∈ A, 47 ∉ x) → (∀ y ∈ B, 47 ∉ y) → (trail B <+: trail A ↔ B <+: A)
  | A, [], _, _ => by simp [trail]
  | [], y :: B, _, _ => by simp [trail]
  | x :: A, y :: B, hA, hB => by
    have h := pre_cons x y (trail B) (trail A) (hA x (List.mem_cons_self ..)) (hB y (List.mem_cons_self ..))
    have ih := trail_pre A B (fun z hz => hA z (List.mem_cons_of_mem _ hz)) (fun z hz => hB z (List.mem_cons_of_mem _ hz))
    have e1 : ∀ (z : List UInt8) (L : List (List UInt8)), trail (z :: L) = z ++ 47 :: trail L := by intro z L; simp [trail]
    rw [e1, e1, h, ih, List.cons_prefix_cons]
theorem name_no {x : List UInt8} (h : nameB x = true) : 47 ∉ x := by
  intro hm
  cases x with
  | nil => cases hm
  | cons c r =>
    unfold nameB at h
    rw [Bool.and_eq_true, List.all_eq_true] at h
    have := h.2 _ hm
    revert this
    decide
theorem within_pre {a b : List UInt8} (ha : (partsR a).2 = 0) (hb : (partsR b).2 = 0) : Lib.hasPrefix (a ++ [47]) (b ++ [47]) = withinR a b := by
  obtain ⟨a1, a2, _⟩ := partsR_ok ha
  obtain ⟨b1, b2, _⟩ := partsR_ok hb
  have la : 0 < (splitOn [] a).length := by rw [split_at]; split <;> simp
  have lb : 0 < (splitOn [] b).length := by rw [split_at]; split <;> simp
  have ja := trail_join la
  have jb := trail_join lb
  rw [join_split] at ja jb
  unfold withinR
  rw [ha, hb, ja, jb, a1, b1]
  simp only [decide_true, Bool.true_and]
  have h := trail_pre (splitOn [] a) (splitOn [] b) (fun x hx => name_no (List.all_eq_true.1 a2 x hx)) (fun x hx => name_no (List.all_eq_true.1 b2 x hx))
  unfold Lib.hasPrefix
  rw [Bool.eq_iff_iff, List.isPrefixOf_iff_prefix, h, List.prefix_iff_eq_take, decide_eq_true_eq]
  exact eq_comm

theorem app_mk (s : ByteArray) (x : UInt8) : (s ++ ⟨#[x]⟩ : ByteArray).data.toList = s.data.toList ++ [x] := by simp

set_option maxHeartbeats 4000000 in
set_option maxRecDepth 100000 in
theorem idWithin_any (s t : ByteArray) (hs : s.size ≤ 1099511627776) (ht : t.size ≤ 1099511627776) (w : World) (hT : Tab4 w) :
    Calls Tryd.prog 21 #[.string s, .string t] w fun e w' => e = .returned (.bool (withinR s.data.toList t.data.toList)) ∧ Below w.heap.size w w' := by
  have P := Lib.hid (idIsPath_any s hs w hT)
  have Q := Lib.hid (fun w h => idIsPath_any t ht w h)
  have HT := Lib.hid hT
  have HW := Lib.hid (fun h1 h2 => within_pre (a := s.data.toList) (b := t.data.toList) h1 h2)
  have H := Lib.hid (fun w => Tryd.strings_HasPrefix (s ++ ⟨#[47]⟩) (t ++ ⟨#[47]⟩) w)
  rw [app_mk, app_mk] at H
  have hdef : withinR s.data.toList t.data.toList = (decide ((partsR s.data.toList).2 = 0) && decide ((partsR t.data.toList).2 = 0) && decide ((partsR s.data.toList).1.take (partsR t.data.toList).1.length = (partsR t.data.toList).1)) := rfl
  clear hT
  by_cases h1 : (partsR s.data.toList).2 = 0
  · rw [decide_eq_true h1] at P hdef
    by_cases h2 : (partsR t.data.toList).2 = 0
    · rw [decide_eq_true h2] at Q
      rw [HW.out h1 h2] at H
      clear hdef h1 h2
      generalize withinR s.data.toList t.data.toList = q at H
      go_enter Tryd.func21, Tryd.ntmps21
      go_wp2_with fail
      go_fit P.out
      rintro e w1 ⟨rfl, hb⟩
      have B := Lib.hid hb
      have T1 := Lib.hid (HT.out.below hb)
      clear hb
      go_wp2_with fail
      go_fit (Q.out _ T1.out)
      rintro e w2 ⟨rfl, hb⟩
      have B2 := Lib.hid (B.out.trans (hb.mono B.out.size))
      clear hb
      go_wp2_with fail
      go_fit (H.out _)
      rintro e w3 ⟨rfl, rfl⟩
      go_wp2_with fail
      go_ret
      exact ⟨rfl, B2.out⟩
    · rw [decide_eq_false h2] at Q hdef
      have HF := Lib.hid hdef
      clear hdef h1 h2
      go_enter Tryd.func21, Tryd.ntmps21
      go_wp2_with fail
      go_fit P.out
      rintro e w1 ⟨rfl, hb⟩
      have B := Lib.hid hb
      have T1 := Lib.hid (HT.out.below hb)
      clear hb
      go_wp2_with fail
      go_fit (Q.out _ T1.out)
      rintro e w2 ⟨rfl, hb⟩
      have B2 := Lib.hid (B.out.trans (hb.mono B.out.size))
      clear hb
      go_wp2_with fail
      go_ret
      exact ⟨by rw [HF.out]; rfl, B2.out⟩
  · rw [decide_eq_false h1] at P hdef
    have HF := Lib.hid (show withinR s.data.toList t.data.toList = false by rw [hdef]; simp)
    clear hdef h1
    go_enter Tryd.func21, Tryd.ntmps21
    go_wp2_with fail
    go_fit P.out
    rintro e w1 ⟨rfl, hb⟩
    have B := Lib.hid hb
    clear hb
    go_wp2_with fail
    go_ret
    exact ⟨by rw [HF.out]; rfl, B.out⟩
end Go.Proofs.YtoehpoodfbgdiabDoor
