/- The contract of the reader's field (octets) at a list, and both for every number of levels. -/
import Derived.Test.YtfnjemocekgncaaPrsC
namespace Go.Proofs.Ytfnjemocekgncaa
open Go.RowKit Go.Lib

theorem But.frozen {R : Nat} {w w' : World} (h : But R w w') {b o : Nat} (hb : b < w.heap.size) (hn : b ≠ R) : w'.frozen? ⟨b, o, none⟩ = w.frozen? ⟨b, o, none⟩ :=
  World.frozen?_of_block (w := w) (h.block b hb (by simpa using hn))
theorem But.setNew {R F : Nat} {w w1 : World} (h : But R w w1) (hF : w.heap.size ≤ F) (o : Nat) (x : Value) : But R w (w1.setCell ⟨F, o, none⟩ x) :=
  ⟨h.os, h.tape, h.output, by simpa [World.setCell] using h.size, fun k hk hn => (Below.heap_setCell w1 ⟨F, o, none⟩ x k (by intro e; simp at e; omega)).trans (h.block k hk hn)⟩

theorem ReadsBytes.keep {R : Nat} {w w' : World} {a : Option Addr} {l : List UInt8} (h : ReadsBytes w a l) (hz : w.heap.size ≤ w'.heap.size) (hb : ∀ b, b < R → w'.heap[b]? = w.heap[b]?) (hn : ∀ b off, a = some ⟨b, off, none⟩ → b < R) : ReadsBytes w' a l := by
  intro k hk
  obtain ⟨b, off, e, hlt, hc⟩ := h k hk
  have := hn b off e
  exact ⟨b, off, e, by omega, (World.cell?_of_block (w := w) (a := ⟨b, off + k, none⟩) (hb b this)).trans hc⟩

set_option maxHeartbeats 4000000 in
set_option maxRecDepth 100000 in
theorem field_list (n : Nat) (ih : Hid (FieldsOk n)) (R : Nat) (hn : n < 128) (k : UInt8) (l : List UInt8) (w : World) (hl : l.length ≤ 1099511627776) (hr : RSt R w (k :: l)) (hk : k.toNat = 2) :
    Calls Try.prog 39 #[.pointer (some ⟨R, 0, none⟩), .int .i64 (128 - (n : Int))] w (FieldPost R (n + 1) w (pField (n + 1) (k :: l))) := by
  have u0 : decide ((128 : Int) < 128 - (n : Int)) = false := by simp; omega
  obtain ⟨a, c, hc, hf, hR, h1, h2, h3, h4⟩ := hr
  obtain ⟨b, off, rfl, hlt, hc0⟩ := h3 0 (by simp)
  rw [List.length_cons] at hc h1
  have hc0 : w.cell? ⟨b, off, none⟩ = some (.int .u8 2) := by simpa [hk] using hc0
  have hbR := h4 b off rfl
  have hsl : ∀ w, (Instr.sliceAt 23 (.slice (some ⟨b, off, none⟩) (l.length + 1) c) (some (.int .i64 1)) none none).run Try.prog w = .ok (.slice (dropA (some ⟨b, off, none⟩) c 1) l.length (c - 1)) w := fun w => slice_from (some ⟨b, off, none⟩) (l.length + 1) c 1 (by omega) w
  have hd := dropA_reads h3 (c := c) h1 1
  have hdb := dropA_block (c := c) (k := 1) h3 h4 (by simp)
  obtain ⟨da, hda⟩ : ∃ da, da = dropA (some ⟨b, off, none⟩) c 1 := ⟨_, rfl⟩
  rw [← hda] at hd hdb hsl
  have HD := Lib.hid (show ReadsBytes w da l from hd)
  have HDB := Lib.hid hdb
  clear h3 h4 hd hdb hda
  have hP : pField (n + 1) (k :: l) = (if (pFields (pField n) l).1 ≠ 0 then ((pFields (pField n) l).1, zeroF, []) else (0, .mk 2 0 ⟨#[]⟩ (pFields (pField n) l).2.1, (pFields (pField n) l).2.2)) := by rw [pField, if_neg (by omega), if_neg (by omega), if_pos hk]
  rw [hP]
  have IH := Lib.hid (fun w t ht hr => ih.out R l w t ht (by omega) hl hr)
  obtain ⟨p, hp⟩ : ∃ p, p = pFields (pField n) l := ⟨_, rfl⟩
  rw [← hp] at IH ⊢
  clear hP hp hk
  by_cases he : p.1 = 0
  · rw [if_neg (by omega)]
    have HE := Lib.hid he
    have u1 : ((p.1 : Int) != 0) = false := by rw [bne_eq_false_iff_eq]; omega
    clear he
    go_enter Try.func39, Try.ntmps39
    go_wp2_with fail
    go_fit (IH.out _ _ (by omega) (by
      refine ⟨da, c - 1, by go_simp, by go_simp, by simp [World.setCell]; omega, by omega, by omega, But.bytes (R := R) (w := w) (by repeat (first | exact But.refl _ _ | refine But.trans ?_ (But.set _ _ _ _) | refine But.trans ?_ (But.alloc _ _ _))) HD.out HDB.out, HDB.out⟩))
    rintro e w1 ⟨v, c1, rfl, hbut, hok⟩
    have hbb := But.trans (a := w) (by repeat (first | exact But.refl _ _ | refine But.trans ?_ (But.set _ _ _ _) | refine But.trans ?_ (But.alloc _ _ _))) hbut
    have hz := hbut.size
    simp [World.setCell] at hz
    have d0 := (hbut.cell (b := w.heap.size) (o := 0) (by simp [World.setCell]; try omega) (by omega)).trans (show _ = some (Value.int .i64 0) by simp [go_sem, World.setCell]; try omega)
    have d1 := (hbut.cell (b := w.heap.size) (o := 1) (by simp [World.setCell]; try omega) (by omega)).trans (show _ = some (Value.int .i64 0) by simp [go_sem, World.setCell]; try omega)
    have d2 := (hbut.cell (b := w.heap.size) (o := 2) (by simp [World.setCell]; try omega) (by omega)).trans (show _ = some (Value.string ⟨#[]⟩) by simp [go_sem, World.setCell]; try omega)
    have d3 := (hbut.cell (b := w.heap.size) (o := 3) (by simp [World.setCell]; try omega) (by omega)).trans (show _ = some (Value.slice none 0 0) by simp [go_sem, World.setCell]; try omega)
    have df0 := (hbut.frozen (b := w.heap.size) (o := 0) (by simp [World.setCell]; try omega) (by omega)).trans (show _ = false by simp [go_sem, World.setCell]; try omega)
    have df1 := (hbut.frozen (b := w.heap.size) (o := 1) (by simp [World.setCell]; try omega) (by omega)).trans (show _ = false by simp [go_sem, World.setCell]; try omega)
    have df2 := (hbut.frozen (b := w.heap.size) (o := 2) (by simp [World.setCell]; try omega) (by omega)).trans (show _ = false by simp [go_sem, World.setCell]; try omega)
    have df3 := (hbut.frozen (b := w.heap.size) (o := 3) (by simp [World.setCell]; try omega) (by omega)).trans (show _ = false by simp [go_sem, World.setCell]; try omega)
    have x0 := (hbut.cell (b := w.heap.size + 1) (o := 0) (by simp [World.setCell]; try omega) (by omega)).trans (show _ = some (Value.int .i64 2) by simp [go_sem, World.setCell]; try omega)
    have x1 := (hbut.cell (b := w.heap.size + 1) (o := 1) (by simp [World.setCell]; try omega) (by omega)).trans (show _ = some (Value.int .i64 0) by simp [go_sem, World.setCell]; try omega)
    have x2 := (hbut.cell (b := w.heap.size + 1) (o := 2) (by simp [World.setCell]; try omega) (by omega)).trans (show _ = some (Value.string ⟨#[]⟩) by simp [go_sem, World.setCell]; try omega)
    have x3 := (hbut.cell (b := w.heap.size + 1) (o := 3) (by simp [World.setCell]; try omega) (by omega)).trans (show _ = some (Value.slice none 0 0) by simp [go_sem, World.setCell]; try omega)
    have xf0 := (hbut.frozen (b := w.heap.size + 1) (o := 0) (by simp [World.setCell]; try omega) (by omega)).trans (show _ = false by simp [go_sem, World.setCell]; try omega)
    have xf1 := (hbut.frozen (b := w.heap.size + 1) (o := 1) (by simp [World.setCell]; try omega) (by omega)).trans (show _ = false by simp [go_sem, World.setCell]; try omega)
    have xf2 := (hbut.frozen (b := w.heap.size + 1) (o := 2) (by simp [World.setCell]; try omega) (by omega)).trans (show _ = false by simp [go_sem, World.setCell]; try omega)
    have xf3 := (hbut.frozen (b := w.heap.size + 1) (o := 3) (by simp [World.setCell]; try omega) (by omega)).trans (show _ = false by simp [go_sem, World.setCell]; try omega)
    have HBB := Lib.hid hbb
    have HOK := Lib.hid hok
    clear hbut hbb hok hc hf hc0 hsl
    obtain ⟨r1, r2, a2, c2, r3, r4, r5, r6, r7, r8, r9⟩ := HOK.out HE.out
    have R2 := Lib.hid r2
    have R8 := Lib.hid r8
    have R9 := Lib.hid r9
    have hsl2 : ∀ w, (Instr.sliceAt 23 (.slice a2 p.2.2.length c2) (some (.int .i64 0)) none none).run Try.prog w = .ok (.slice a2 p.2.2.length c2) w := fun w => by simpa [dropA_zero] using slice_from a2 p.2.2.length c2 0 (by omega) w
    clear r2 r8 r9 HOK
    go_wp2_with fail
    refine bodyPost_ret (v := .tuple #[.agg #[.int .i64 2, .int .i64 0, .string ⟨#[]⟩, .slice v p.2.1.length c1], .int .i64 0]) (by simp [results, Try.results39, go_sem, d0, d1, d2, d3]) rfl ⟨2, 0, ⟨#[]⟩, v, c1, p.2.1, rfl, ?_, fun _ => ⟨rfl, by omega, by omega, by omega, by omega, by omega, ?_, ?_⟩⟩
    · (repeat (with_reducible first | (refine But.setNew ?_ (by omega) _ _) | (refine But.trans ?_ (But.set R _ _ _))))
      exact HBB.out
    · refine ReadsS.move (by simp [World.setCell]) (fun b hb hS => ?_) n v p.2.1 R2.out
      simp [World.setCell] at hS
      exact ⟨by omega, by rw [Below.heap_setCell _ _ _ b (by simp; omega), Below.heap_setCell _ _ _ b (by simp; omega), Below.heap_setCell _ _ _ b (by simp; omega), Below.heap_setCell _ _ _ b (by simp; omega), Below.heap_setCell _ _ _ b (by simp; omega), Below.heap_setCell _ _ _ b (by simp; omega)]⟩
    · refine ⟨a2, c2, by go_simp, by go_simp, by simp [World.setCell]; omega, r6, r7, ?_, R9.out⟩
      refine R8.out.keep (R := R) (by simp [World.setCell]) (fun b hb => ?_) R9.out
      rw [Below.heap_setCell _ _ _ b (by simp; omega), Below.heap_setCell _ _ _ b (by simp; omega), Below.heap_setCell _ _ _ b (by simp; omega), Below.heap_setCell _ _ _ b (by simp; omega), Below.heap_setCell _ _ _ b (by simp; omega), Below.heap_setCell _ _ _ b (by simp; omega)]
  · rw [if_pos he]
    have HE := Lib.hid he
    have u1 : ((p.1 : Int) != 0) = true := by rw [bne_iff_ne]; omega
    clear he
    go_enter Try.func39, Try.ntmps39
    go_wp2_with fail
    go_fit (IH.out _ _ (by omega) (by
      refine ⟨da, c - 1, by go_simp, by go_simp, by simp [World.setCell]; omega, by omega, by omega, But.bytes (R := R) (w := w) (by repeat (first | exact But.refl _ _ | refine But.trans ?_ (But.set _ _ _ _) | refine But.trans ?_ (But.alloc _ _ _))) HD.out HDB.out, HDB.out⟩))
    rintro e w1 ⟨v, c1, rfl, hbut, hok⟩
    have hbb := But.trans (a := w) (by repeat (first | exact But.refl _ _ | refine But.trans ?_ (But.set _ _ _ _) | refine But.trans ?_ (But.alloc _ _ _))) hbut
    have hz := hbut.size
    simp [World.setCell] at hz
    have d0 := (hbut.cell (b := w.heap.size) (o := 0) (by simp [World.setCell]; try omega) (by omega)).trans (show _ = some (Value.int .i64 0) by simp [go_sem, World.setCell]; try omega)
    have d1 := (hbut.cell (b := w.heap.size) (o := 1) (by simp [World.setCell]; try omega) (by omega)).trans (show _ = some (Value.int .i64 0) by simp [go_sem, World.setCell]; try omega)
    have d2 := (hbut.cell (b := w.heap.size) (o := 2) (by simp [World.setCell]; try omega) (by omega)).trans (show _ = some (Value.string ⟨#[]⟩) by simp [go_sem, World.setCell]; try omega)
    have d3 := (hbut.cell (b := w.heap.size) (o := 3) (by simp [World.setCell]; try omega) (by omega)).trans (show _ = some (Value.slice none 0 0) by simp [go_sem, World.setCell]; try omega)
    have df0 := (hbut.frozen (b := w.heap.size) (o := 0) (by simp [World.setCell]; try omega) (by omega)).trans (show _ = false by simp [go_sem, World.setCell]; try omega)
    have df1 := (hbut.frozen (b := w.heap.size) (o := 1) (by simp [World.setCell]; try omega) (by omega)).trans (show _ = false by simp [go_sem, World.setCell]; try omega)
    have df2 := (hbut.frozen (b := w.heap.size) (o := 2) (by simp [World.setCell]; try omega) (by omega)).trans (show _ = false by simp [go_sem, World.setCell]; try omega)
    have df3 := (hbut.frozen (b := w.heap.size) (o := 3) (by simp [World.setCell]; try omega) (by omega)).trans (show _ = false by simp [go_sem, World.setCell]; try omega)
    have x0 := (hbut.cell (b := w.heap.size + 1) (o := 0) (by simp [World.setCell]; try omega) (by omega)).trans (show _ = some (Value.int .i64 2) by simp [go_sem, World.setCell]; try omega)
    have x1 := (hbut.cell (b := w.heap.size + 1) (o := 1) (by simp [World.setCell]; try omega) (by omega)).trans (show _ = some (Value.int .i64 0) by simp [go_sem, World.setCell]; try omega)
    have x2 := (hbut.cell (b := w.heap.size + 1) (o := 2) (by simp [World.setCell]; try omega) (by omega)).trans (show _ = some (Value.string ⟨#[]⟩) by simp [go_sem, World.setCell]; try omega)
    have x3 := (hbut.cell (b := w.heap.size + 1) (o := 3) (by simp [World.setCell]; try omega) (by omega)).trans (show _ = some (Value.slice none 0 0) by simp [go_sem, World.setCell]; try omega)
    have xf0 := (hbut.frozen (b := w.heap.size + 1) (o := 0) (by simp [World.setCell]; try omega) (by omega)).trans (show _ = false by simp [go_sem, World.setCell]; try omega)
    have xf1 := (hbut.frozen (b := w.heap.size + 1) (o := 1) (by simp [World.setCell]; try omega) (by omega)).trans (show _ = false by simp [go_sem, World.setCell]; try omega)
    have xf2 := (hbut.frozen (b := w.heap.size + 1) (o := 2) (by simp [World.setCell]; try omega) (by omega)).trans (show _ = false by simp [go_sem, World.setCell]; try omega)
    have xf3 := (hbut.frozen (b := w.heap.size + 1) (o := 3) (by simp [World.setCell]; try omega) (by omega)).trans (show _ = false by simp [go_sem, World.setCell]; try omega)
    have HBB := Lib.hid hbb
    have HOK := Lib.hid hok
    clear hbut hbb hok hc hf hc0 hsl
    clear HOK
    go_wp2_with fail
    refine bodyPost_ret (v := .tuple #[.agg #[.int .i64 0, .int .i64 0, .string ⟨#[]⟩, .slice none 0 0], .int .i64 (p.1 : Nat)]) (by simp [results, Try.results39, go_sem, d0, d1, d2, d3]) rfl ⟨0, 0, ⟨#[]⟩, none, 0, [], rfl, ?_, fun h => absurd h HE.out⟩
    (repeat (with_reducible first | (refine But.setNew ?_ (by omega) _ _) | (refine But.trans ?_ (But.set R _ _ _))))
    exact HBB.out

theorem FieldOk_all : ∀ n, FieldOk n
  | 0 => by
    intro R l w t ht _ _ _
    obtain rfl : t = 129 := by omega
    exact field_deep R l w
  | n + 1 => by
    intro R l w t ht hn hl hr
    obtain rfl : t = 128 - (n : Int) := by omega
    cases l with
    | nil => exact field_empty n R (by omega) w hr
    | cons k l =>
      have hl2 : l.length ≤ 1099511627776 := by simp at hl; omega
      by_cases k0 : k.toNat = 0
      · exact field_int n R (by omega) k l w hl2 hr k0
      · by_cases k1 : k.toNat = 1
        · exact field_str n R (by omega) k l w hl2 hr k1
        · by_cases k2 : k.toNat = 2
          · exact field_list n (Lib.hid (fields_of n (Lib.hid (FieldOk_all n)))) R (by omega) k l w hl2 hr k2
          · exact field_bad n R (by omega) k l w hl2 hr (by omega)
theorem FieldsOk_all (n : Nat) : FieldsOk n := fields_of n (Lib.hid (FieldOk_all n))
end Go.Proofs.Ytfnjemocekgncaa
