/- The contract of Add at the end of no share or one (fairness). -/
import Derived.Test.YtmjikddceegloaaGreatDoorFrU
namespace Go.Proofs.YtmjikddceegloaaGreatDoor
open Go.RowKit Go.Lib
set_option linter.unusedSimpArgs false

theorem RowH.up {w : World} {B B' : Nat} {v : Value} {L : List Sha} (h : RowH w B v L) (hb : B' ≤ B) : RowH w B' v L := World.ownsRow.mono h hb
theorem RowH.lay {w : World} {B : Nat} {v : Value} {L : List Sha} (h : RowH w B v L) (o : Obj) : RowH (w.alloc o) B v L := World.ownsRow.alloc h o
def AddPost (R : List Sha) (w : World) (e : Ending) (w' : World) : Prop := ∃ (a : Option Addr) (c : Nat), e = .returned (.tuple #[.slice a R.length c, .int .i64 0]) ∧ ReadsH w' a R ∧ Below w.heap.size w w'
set_option maxRecDepth 100000 in
set_option maxHeartbeats 4000000 in
theorem addNil_any (cap : Nat) (p : ByteArray) (m : Int) (hp : p.size ≤ 1000000) (hV : ValidS []) (hn : nameB p.data.toList = true) (hm : 1 ≤ m ∧ m ≤ 1000) (w : World) (hr : ReadsH w none []) :
    Calls Tryz.prog 11 #[.slice none 0 cap, .string p, .int .i64 m] w (AddPost ([] ++ [⟨p.data.toList, m, 0⟩]) w) := by
  have VA := Lib.hid (valid_any none cap [] true ⟨fun _ => hV, fun _ => rfl⟩ (by simp) (fun x hx => by cases hx) w hr)
  have NM := Lib.hid (fun w => idName_any p (by omega) w)
  rw [hn] at NM
  have WG := fun w => wgt_any m w
  rw [decide_eq_true hm] at WG
  have WG := Lib.hid WG
  have FI := Lib.hid (fun w' (hb : Below w.heap.size w w') => find_any none cap [] hV p hp w' (hr.below hb))
  have HR := Lib.hid hr
  have HPB := Lib.hid (show (⟨p.data.toList.toArray⟩ : ByteArray) = p from str_back p)
  have FK := Lib.hid (show ∀ k bb, FindR [] p.data.toList k bb → k = 0 ∧ bb = false from fun k bb ⟨hf, hbb⟩ => by
    have hk : k ≤ 0 := hf.le
    have hk' : k = 0 := by omega
    refine ⟨hk', ?_⟩
    subst hk'
    cases bb
    · rfl
    · obtain ⟨h, _⟩ := hbb.1 rfl
      simp at h)
  have CL := Lib.hid (fun w' (hb : Below w.heap.size w w') => cloneH_any none [] cap (by simp) w' (hr.below hb))
  have IE := Lib.hid (fun u B pb w' => insertEnd_any u [] ⟨p.data.toList, m, 0⟩ B pb (by simp) w')
  dsimp only at IE
  rw [HPB.out] at IE
  clear hr hn hV
  go_enter Tryz.func11, Tryz.ntmps11
  go_wp2_with fail
  go_fit VA.out
  rintro e w1 ⟨rfl, hb⟩
  have B1 := Lib.hid hb
  clear hb
  go_wp2_with fail
  go_fit (NM.out _)
  rintro e w2 ⟨rfl, hb⟩
  have B2 := Lib.hid (B1.out.trans (hb.mono B1.out.size))
  clear hb
  go_wp2_with fail
  go_fit (WG.out _)
  rintro e w3 ⟨rfl, rfl⟩
  go_wp2_with fail
  go_fit (FI.out _ B2.out)
  rintro e w3 ⟨k, bb, rfl, hf, hb⟩
  obtain ⟨rfl, rfl⟩ := FK.out k bb hf
  have B3 := Lib.hid (B2.out.trans (hb.mono B2.out.size))
  clear hb hf
  go_wp2_with fail
  have BI := B3.out.alloc B3.out.size (.cells #[.string p, .int .i64 m, .int .i64 0] 41)
  have TI := ThH.new w3 (.string p) (.int .i64 m) (.int .i64 0)
  obtain ⟨W, hW⟩ : ∃ W, W = w3.alloc (.cells #[.string p, .int .i64 m, .int .i64 0] 41) := ⟨_, rfl⟩
  obtain ⟨pb, hpb⟩ : ∃ pb, pb = w3.heap.size := ⟨_, rfl⟩
  rw [← hW] at BI TI ⊢
  have BI := Lib.hid BI
  rw [← hpb] at TI ⊢
  clear hW hpb
  have TI := Lib.hid TI
  have hwI := BI.out.size
  have BD := Lib.hid (BI.out.drew)
  have BD2 := Lib.hid (BD.out.alloc (by simpa using hwI) (.cells #[.string p, .int .i64 m, .int .i64 0] 41))
  have TD := Lib.hid (TI.out.below (Below.refl W.heap.size W).drew)
  have TD2 := Lib.hid (TD.out.alloc (.cells #[.string p, .int .i64 m, .int .i64 0] 41))
  have TN := Lib.hid (ThH.new W.drew (.string p) (.int .i64 m) (.int .i64 0))
  obtain ⟨t0, t1, t2⟩ := TD.out.facts
  have hwd : w.heap.size ≤ W.drew.heap.size := hwI
  have hwd2 : w.heap.size ≤ (W.drew.alloc (.cells #[.string p, .int .i64 m, .int .i64 0] 41)).heap.size := by rw [World.size_alloc]; exact Nat.le_succ_of_le hwI
  have hl6 : ∀ {w6 : World}, Below W.drew.heap.size W.drew w6 → W.heap.size ≤ w6.heap.size := fun h => h.size
  have hl6' : ∀ {w6 : World}, Below (W.drew.alloc (.cells #[.string p, .int .i64 m, .int .i64 0] 41)).heap.size (W.drew.alloc (.cells #[.string p, .int .i64 m, .int .i64 0] 41)) w6 → W.heap.size ≤ w6.heap.size := fun h => by
    have h' := h.size
    rw [World.size_alloc] at h'
    have : W.drew.heap.size = W.heap.size := rfl
    omega
  go_region_with (first
    | (go_at_call 32; first
      | (go_fit (CL.out _ BD.out); rintro e w6 ⟨u6, rfl, hrow6, hb6⟩; have T6 := TD.out.below hb6; obtain ⟨s0, s1, s2⟩ := T6.facts)
      | (go_fit (CL.out _ BD2.out); rintro e w6 ⟨u6, rfl, hrow6, hb6⟩))
    | (go_at_call 31; first
      | (go_fit (IE.out _ W.heap.size _ _ (by rw [World.size_alloc]; exact Nat.le_succ_of_le (hl6 hb6)) ((RowH.up hrow6 (Nat.le_refl _)).lay _) (ThH.new w6 _ _ _)); rintro e w7 ⟨u7, rfl, hrow7, hb7⟩; have B7 := Lib.hid (((BD.out.trans (hb6.mono hwd)).alloc (Nat.le_trans hwI (hl6 hb6)) (.cells #[.string p, .int .i64 m, .int .i64 0] 41)).trans (hb7.mono hwI)))
      | (go_fit (IE.out _ W.heap.size _ _ (hl6' hb6) (RowH.up hrow6 (by show W.heap.size ≤ (W.alloc _).heap.size; rw [World.size_alloc]; exact Nat.le_succ _)) (TN.out.below hb6)); rintro e w7 ⟨u7, rfl, hrow7, hb7⟩; have B7 := Lib.hid ((BD2.out.trans (hb6.mono hwd2)).trans (hb7.mono hwI)))))
  all_goals
    obtain ⟨a7, c7, rfl, _, hrd7⟩ := hrow7.reads
    have HRD := Lib.hid hrd7
    clear hrow6 hb6 hrow7 hb7 hrd7 t0 t1 t2
    go_wp2_with fail
    go_ret2
    exact ⟨a7, c7, rfl, HRD.out, B7.out⟩
set_option maxRecDepth 100000 in
set_option maxHeartbeats 4000000 in
theorem addOne_any (b off : Nat) (z : Sha) (cap : Nat) (p : ByteArray) (m q : Int) (hp : p.size ≤ 1000000) (hV : ValidS [z]) (hn : nameB p.data.toList = true) (hm : 1 ≤ m ∧ m ≤ 1000) (hlt : cmpL z.prj p.data.toList < 0) (hq : scQ (-z.srv) m z.wgt = -q) (hqI : 0 ≤ q ∧ q ≤ 1125899906842624) (w : World) (hr : ReadsH w (some ⟨b, off, none⟩) [z]) :
    Calls Tryz.prog 11 #[.slice (some ⟨b, off, none⟩) 1 cap, .string p, .int .i64 m] w (AddPost ([z] ++ [⟨p.data.toList, m, q⟩]) w) := by
  have VA := Lib.hid (valid_any (some ⟨b, off, none⟩) cap [z] true ⟨fun _ => hV, fun _ => rfl⟩ (by simp) (fun x hx => by obtain rfl := List.mem_singleton.1 hx; have := hV.plen (i := 0) (by simp); simp at this; omega) w hr)
  have NM := Lib.hid (fun w => idName_any p (by omega) w)
  rw [hn] at NM
  have WG := fun w => wgt_any m w
  rw [decide_eq_true hm] at WG
  have WG := Lib.hid WG
  have FI := Lib.hid (fun w' (hb : Below w.heap.size w w') => find_any (some ⟨b, off, none⟩) cap [z] hV p hp w' (hr.below hb))
  have HR := Lib.hid hr
  have HPB := Lib.hid (show (⟨p.data.toList.toArray⟩ : ByteArray) = p from str_back p)
  have MN := Lib.hid (fun w' fv (hb : Below w.heap.size w w') => minOne_any b off cap z fv w' (hr.below hb))
  have AL := Lib.hid (fun w' => alike_any z m q (hV.right (i := 0) (by simp)).2.2 (by have := (hV.right (i := 0) (by simp)).2.1; simp at this; unfold I64; omega) (by unfold I64; omega) hq ⟨hqI.1, by omega⟩ w')
  have FK := Lib.hid (show ∀ k bb, FindR [z] p.data.toList k bb → k = 1 ∧ bb = false from fun k bb ⟨hf, hbb⟩ => by
    have hk : k ≤ 1 := hf.le
    have hk' : k = 1 := by 
      by_cases hk1 : 1 ≤ k
      · omega
      · obtain rfl : k = 0 := by omega
        have := hf.high 0 (by simp) (by omega)
        simp at this
        omega
    refine ⟨hk', ?_⟩
    subst hk'
    cases bb
    · rfl
    · obtain ⟨h, _⟩ := hbb.1 rfl
      simp at h)
  have CL := Lib.hid (fun w' (hb : Below w.heap.size w w') => cloneH_any (some ⟨b, off, none⟩) [z] cap (by simp) w' (hr.below hb))
  have IE := Lib.hid (fun u B pb w' => insertEnd_any u [z] ⟨p.data.toList, m, q⟩ B pb (by simp) w')
  dsimp only at IE
  rw [HPB.out] at IE
  have hq1 : ¬ 1125899906842624 < q := by omega
  clear hr hn hV hlt hq
  go_enter Tryz.func11, Tryz.ntmps11
  go_wp2_with fail
  go_fit VA.out
  rintro e w1 ⟨rfl, hb⟩
  have B1 := Lib.hid hb
  clear hb
  go_wp2_with fail
  go_fit (NM.out _)
  rintro e w2 ⟨rfl, hb⟩
  have B2 := Lib.hid (B1.out.trans (hb.mono B1.out.size))
  clear hb
  go_wp2_with fail
  go_fit (WG.out _)
  rintro e w3 ⟨rfl, rfl⟩
  go_wp2_with fail
  go_fit (FI.out _ B2.out)
  rintro e w3 ⟨k, bb, rfl, hf, hb⟩
  obtain ⟨rfl, rfl⟩ := FK.out k bb hf
  have B3 := Lib.hid (B2.out.trans (hb.mono B2.out.size))
  clear hb hf
  go_wp2_with fail
  have BA := B3.out.alloc B3.out.size (.cells #[.string p, .int .i64 m, .int .i64 0] 41)
  have TA := ThH.new w3 (.string p) (.int .i64 m) (.int .i64 0)
  go_fit (MN.out _ _ BA)
  rintro e w4 ⟨rfl, hb⟩
  have B4 := Lib.hid (BA.trans (hb.mono BA.size))
  have T4 := TA.below hb
  clear hb BA TA
  unfold shV at AL
  go_wp2_with fail
  go_fit (AL.out _)
  rintro e w5 ⟨rfl, hb⟩
  have B5 := B4.out.trans (hb.mono B4.out.size)
  have T5 := T4.below hb
  clear hb T4
  obtain ⟨y0, y1, y2⟩ := T5.facts
  obtain ⟨f0, f1, f2⟩ := T5.froz
  have s3 := B3.out.size
  have BI := B5.setCell (p := ⟨w3.heap.size, 2, none⟩) s3 (.int .i64 q)
  have TI : ThH (w5.setCell ⟨w3.heap.size, 2, none⟩ (.int .i64 q)) w3.heap.size (.string p) (.int .i64 m) (.int .i64 q) := ⟨setCell_blk 2 T5.blk (.int .i64 q)⟩
  obtain ⟨x0, x1, x2⟩ := TI.facts
  go_wp2_with fail
  clear x0 x1 x2 y0 y1 y2 f0 f1 f2 T5 B5 s3
  obtain ⟨W, hW⟩ : ∃ W, W = w5.setCell ⟨w3.heap.size, 2, none⟩ (.int .i64 q) := ⟨_, rfl⟩
  obtain ⟨pb, hpb⟩ : ∃ pb, pb = w3.heap.size := ⟨_, rfl⟩
  rw [← hW] at BI TI ⊢
  have BI := Lib.hid BI
  rw [← hpb] at TI ⊢
  clear hW hpb
  have TI := Lib.hid TI
  have hwI := BI.out.size
  have BD := Lib.hid (BI.out.drew)
  have BD2 := Lib.hid (BD.out.alloc (by simpa using hwI) (.cells #[.string p, .int .i64 m, .int .i64 q] 41))
  have TD := Lib.hid (TI.out.below (Below.refl W.heap.size W).drew)
  have TD2 := Lib.hid (TD.out.alloc (.cells #[.string p, .int .i64 m, .int .i64 q] 41))
  have TN := Lib.hid (ThH.new W.drew (.string p) (.int .i64 m) (.int .i64 q))
  obtain ⟨t0, t1, t2⟩ := TD.out.facts
  have hwd : w.heap.size ≤ W.drew.heap.size := hwI
  have hwd2 : w.heap.size ≤ (W.drew.alloc (.cells #[.string p, .int .i64 m, .int .i64 q] 41)).heap.size := by rw [World.size_alloc]; exact Nat.le_succ_of_le hwI
  have hl6 : ∀ {w6 : World}, Below W.drew.heap.size W.drew w6 → W.heap.size ≤ w6.heap.size := fun h => h.size
  have hl6' : ∀ {w6 : World}, Below (W.drew.alloc (.cells #[.string p, .int .i64 m, .int .i64 q] 41)).heap.size (W.drew.alloc (.cells #[.string p, .int .i64 m, .int .i64 q] 41)) w6 → W.heap.size ≤ w6.heap.size := fun h => by
    have h' := h.size
    rw [World.size_alloc] at h'
    have : W.drew.heap.size = W.heap.size := rfl
    omega
  go_region_with (first
    | (go_at_call 32; first
      | (go_fit (CL.out _ BD.out); rintro e w6 ⟨u6, rfl, hrow6, hb6⟩; have T6 := TD.out.below hb6; obtain ⟨s0, s1, s2⟩ := T6.facts)
      | (go_fit (CL.out _ BD2.out); rintro e w6 ⟨u6, rfl, hrow6, hb6⟩))
    | (go_at_call 31; first
      | (go_fit (IE.out _ W.heap.size _ _ (by rw [World.size_alloc]; exact Nat.le_succ_of_le (hl6 hb6)) ((RowH.up hrow6 (Nat.le_refl _)).lay _) (ThH.new w6 _ _ _)); rintro e w7 ⟨u7, rfl, hrow7, hb7⟩; have B7 := Lib.hid (((BD.out.trans (hb6.mono hwd)).alloc (Nat.le_trans hwI (hl6 hb6)) (.cells #[.string p, .int .i64 m, .int .i64 q] 41)).trans (hb7.mono hwI)))
      | (go_fit (IE.out _ W.heap.size _ _ (hl6' hb6) (RowH.up hrow6 (by show W.heap.size ≤ (W.alloc _).heap.size; rw [World.size_alloc]; exact Nat.le_succ _)) (TN.out.below hb6)); rintro e w7 ⟨u7, rfl, hrow7, hb7⟩; have B7 := Lib.hid ((BD2.out.trans (hb6.mono hwd2)).trans (hb7.mono hwI)))))
  all_goals
    obtain ⟨a7, c7, rfl, _, hrd7⟩ := hrow7.reads
    have HRD := Lib.hid hrd7
    clear hrow6 hb6 hrow7 hb7 hrd7 t0 t1 t2
    go_wp2_with fail
    go_ret2
    exact ⟨a7, c7, rfl, HRD.out, B7.out⟩
end Go.Proofs.YtmjikddceegloaaGreatDoor
