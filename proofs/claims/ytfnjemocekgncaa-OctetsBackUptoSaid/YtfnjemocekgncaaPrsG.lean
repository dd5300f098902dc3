/- The contract of the document's take (octets), and both for every number of levels. -/
import Derived.Test.YtfnjemocekgncaaPrsF
namespace Go.Proofs.Ytfnjemocekgncaa
open Go.RowKit Go.Lib

set_option maxHeartbeats 4000000 in
set_option maxRecDepth 100000 in
theorem take_deep  (v : Option Addr) (cap : Nat) (l0 : List UInt8) (q : Nat) (w : World) :
    Calls Try.prog 40 #[.slice v l0.length cap, .int .i64 q, .int .i64 129] w (TkPost l0 0 w (pField 0 (l0.drop q))) := by
  go_enter Try.func40, Try.ntmps40
  go_wp2_with fail
  exact bodyPost_ret (v := .tuple #[.agg #[.int .i64 0, .int .i64 0, .string ⟨#[]⟩, .slice none 0 0], .int .i64 q, .int .i64 13]) (by simp [results, Try.results40, go_sem]) rfl ⟨0, 0, ⟨#[]⟩, none, 0, [], q, rfl, by repeat (first | exact Below.refl _ _ | refine Below.setCell ?_ (by simp <;> omega) _ | refine Below.alloc ?_ (by simp <;> omega) _), fun h => by simp [pField] at h⟩

set_option maxHeartbeats 4000000 in
set_option maxRecDepth 100000 in
theorem take_empty (n : Nat) (hn : n < 128) (v : Option Addr) (cap : Nat) (l0 : List UInt8) (q : Nat) (w : World) (hq : q = l0.length) (hs : Src v cap l0 w) :
    Calls Try.prog 40 #[.slice v l0.length cap, .int .i64 q, .int .i64 (128 - (n : Int))] w (TkPost l0 (n + 1) w (pField (n + 1) (l0.drop q))) := by
  have u0 : decide ((128 : Int) < 128 - (n : Int)) = false := by simp; omega
  subst hq
  have hl9 : l0.length ≤ 1099511627776 := hs.2.2.1
  rw [List.drop_length]
  clear hs
  go_enter Try.func40, Try.ntmps40
  go_wp2_with fail
  exact bodyPost_ret (v := .tuple #[.agg #[.int .i64 0, .int .i64 0, .string ⟨#[]⟩, .slice none 0 0], .int .i64 l0.length, .int .i64 4]) (by simp [results, Try.results40, go_sem]) rfl ⟨0, 0, ⟨#[]⟩, none, 0, [], l0.length, rfl, by repeat (first | exact Below.refl _ _ | refine Below.setCell ?_ (by simp <;> omega) _ | refine Below.alloc ?_ (by simp <;> omega) _), fun h => by simp [pField] at h⟩

set_option maxHeartbeats 4000000 in
set_option maxRecDepth 100000 in
theorem take_int (n : Nat) (hn : n < 128) (v : Option Addr) (cap : Nat) (l0 : List UInt8) (q : Nat) (w : World) (hq : q < l0.length) (hs : Src v cap l0 w) (hk : l0[q].toNat = 0) :
    Calls Try.prog 40 #[.slice v l0.length cap, .int .i64 q, .int .i64 (128 - (n : Int))] w (TkPost l0 (n + 1) w (pField (n + 1) (l0.drop q))) := by
  have u0 : decide ((128 : Int) < 128 - (n : Int)) = false := by simp; omega
  have hl9 : l0.length ≤ 1099511627776 := hs.2.2.1
  obtain ⟨b, off, rfl, hlt, hc0⟩ := hs.2.2.2 q hq
  have hsl := fun w => slice_from (some ⟨b, off, none⟩) l0.length cap (q + 1) (by omega) w
  rw [show ((q + 1 : Nat) : Int) = (q : Int) + 1 from by omega] at hsl
  rw [List.drop_eq_getElem_cons hq]
  obtain ⟨k, hk0⟩ : ∃ k, k = l0[q] := ⟨_, rfl⟩
  rw [← hk0] at hc0 hk ⊢
  rw [hk] at hc0
  have HS := Lib.hid hs
  clear hs
  obtain ⟨x0, x1, x2⟩ := take_facts (l0.drop (q + 1))
  have hT := fun (w' : World) (hb : Below w.heap.size w w') => refTakeInt_any (dropA (some ⟨b, off, none⟩) cap (q + 1)) (cap - (q + 1)) (l0.drop (q + 1)) (by rw [List.length_drop]; omega) w' (dropA_reads (HS.out.below hb).2.2.2 HS.out.1 (q + 1))
  rw [List.length_drop] at hT x2
  have hP : pField (n + 1) (k :: l0.drop (q + 1)) = (if (take (l0.drop (q + 1))).2.2 ≠ 0 then ((take (l0.drop (q + 1))).2.2, zeroF, []) else (0, .mk 0 (unzig (take (l0.drop (q + 1))).1) ⟨#[]⟩ [], (l0.drop (q + 1)).drop (take (l0.drop (q + 1))).2.1)) := by rw [pField, if_pos hk]
  rw [hP]
  have hz : -9223372036854775808 ≤ unzig (take (l0.drop (q + 1))).1 ∧ unzig (take (l0.drop (q + 1))).1 ≤ 9223372036854775807 := by unfold unzig; split <;> omega
  obtain ⟨z, hzz⟩ : ∃ z, z = unzig (take (l0.drop (q + 1))).1 := ⟨_, rfl⟩
  rw [← hzz] at hT hz ⊢
  obtain ⟨k2, hk2⟩ : ∃ k2, k2 = (take (l0.drop (q + 1))).2.1 := ⟨_, rfl⟩
  obtain ⟨e2, he2⟩ : ∃ e2, e2 = (take (l0.drop (q + 1))).2.2 := ⟨_, rfl⟩
  rw [← hk2] at hT x2 ⊢
  rw [← he2] at hT ⊢
  clear hP hzz hk2 he2 x0 x1 hk hk0
  have HT := Lib.hid hT
  clear hT
  have k0 : (0 : Int) ≤ k2 ∧ (q : Int) + 1 + k2 ≤ l0.length := by omega
  by_cases he : e2 = 0
  · rw [if_neg (by omega)]
    have HE := Lib.hid he
    subst he
    go_enter Try.func40, Try.ntmps40
    go_wp2_with fail
    go_fit (HT.out _ (by repeat (first | exact Below.refl _ _ | refine Below.setCell ?_ (by simp <;> omega) _ | refine Below.alloc ?_ (by simp <;> omega) _)))
    rintro e w1 ⟨rfl, rfl⟩
    go_wp2_with fail
    refine bodyPost_ret (v := .tuple #[.agg #[.int .i64 0, .int .i64 z, .string ⟨#[]⟩, .slice none 0 0], .int .i64 ((q : Int) + 1 + k2), .int .i64 0]) (by simp [results, Try.results40, go_sem]) rfl ⟨0, z, ⟨#[]⟩, none, 0, [], (q : Int) + 1 + k2, rfl, by repeat (first | exact Below.refl _ _ | refine Below.setCell ?_ (by simp <;> omega) _ | refine Below.alloc ?_ (by simp <;> omega) _), fun _ => ⟨rfl, by omega, by omega, by omega, by omega, by simp, ReadsS.nil _ _ _ _, q + 1 + k2, by omega, by omega, by rw [List.drop_drop]⟩⟩
  · rw [if_pos he]
    have HE := Lib.hid he
    clear he
    go_enter Try.func40, Try.ntmps40
    go_wp2_with fail
    go_fit (HT.out _ (by repeat (first | exact Below.refl _ _ | refine Below.setCell ?_ (by simp <;> omega) _ | refine Below.alloc ?_ (by simp <;> omega) _)))
    rintro e w1 ⟨rfl, rfl⟩
    go_wp2_with fail
    exact bodyPost_ret (v := .tuple #[.agg #[.int .i64 0, .int .i64 z, .string ⟨#[]⟩, .slice none 0 0], .int .i64 ((q : Int) + 1 + k2), .int .i64 e2]) (by simp [results, Try.results40, go_sem]) rfl ⟨0, z, ⟨#[]⟩, none, 0, [], (q : Int) + 1 + k2, rfl, by repeat (first | exact Below.refl _ _ | refine Below.setCell ?_ (by simp <;> omega) _ | refine Below.alloc ?_ (by simp <;> omega) _), fun h => absurd h HE.out⟩

set_option maxHeartbeats 4000000 in
set_option maxRecDepth 100000 in
theorem take_str (n : Nat) (hn : n < 128) (v : Option Addr) (cap : Nat) (l0 : List UInt8) (q : Nat) (w : World) (hq : q < l0.length) (hs : Src v cap l0 w) (hk : l0[q].toNat = 1) :
    Calls Try.prog 40 #[.slice v l0.length cap, .int .i64 q, .int .i64 (128 - (n : Int))] w (TkPost l0 (n + 1) w (pField (n + 1) (l0.drop q))) := by
  have u0 : decide ((128 : Int) < 128 - (n : Int)) = false := by simp; omega
  have hl9 : l0.length ≤ 1099511627776 := hs.2.2.1
  obtain ⟨b, off, rfl, hlt, hc0⟩ := hs.2.2.2 q hq
  have hsl := fun w => slice_from (some ⟨b, off, none⟩) l0.length cap (q + 1) (by omega) w
  rw [show ((q + 1 : Nat) : Int) = (q : Int) + 1 from by omega] at hsl
  rw [List.drop_eq_getElem_cons hq]
  obtain ⟨k, hk0⟩ : ∃ k, k = l0[q] := ⟨_, rfl⟩
  rw [← hk0] at hc0 hk ⊢
  rw [hk] at hc0
  have HS := Lib.hid hs
  clear hs
  have x2 := takeS_facts (l0.drop (q + 1))
  have hT := fun (w' : World) (hb : Below w.heap.size w w') => refTakeString_any (dropA (some ⟨b, off, none⟩) cap (q + 1)) (cap - (q + 1)) (l0.drop (q + 1)) (by rw [List.length_drop]; have := HS.out.1; omega) (by have := HS.out.2.1; omega) w' (dropA_reads (HS.out.below hb).2.2.2 HS.out.1 (q + 1))
  rw [List.length_drop] at hT x2
  have hP : pField (n + 1) (k :: l0.drop (q + 1)) = (if (takeS (l0.drop (q + 1))).2.2 ≠ 0 then ((takeS (l0.drop (q + 1))).2.2, zeroF, []) else (0, .mk 1 0 ⟨(takeS (l0.drop (q + 1))).1.toArray⟩ [], (l0.drop (q + 1)).drop (takeS (l0.drop (q + 1))).2.1)) := by rw [pField, if_neg (by omega), if_pos hk]
  rw [hP]
  obtain ⟨z, hzz⟩ : ∃ z : ByteArray, z = ⟨(takeS (l0.drop (q + 1))).1.toArray⟩ := ⟨_, rfl⟩
  rw [← hzz] at hT ⊢
  obtain ⟨k2, hk2⟩ : ∃ k2, k2 = (takeS (l0.drop (q + 1))).2.1 := ⟨_, rfl⟩
  obtain ⟨e2, he2⟩ : ∃ e2, e2 = (takeS (l0.drop (q + 1))).2.2 := ⟨_, rfl⟩
  rw [← hk2] at hT x2 ⊢
  rw [← he2] at hT ⊢
  clear hP hzz hk2 he2 hk hk0
  have HT := Lib.hid hT
  clear hT
  have k0 : (0 : Int) ≤ k2 ∧ (q : Int) + 1 + k2 ≤ l0.length := by omega
  by_cases he : e2 = 0
  · rw [if_neg (by omega)]
    have HE := Lib.hid he
    subst he
    go_enter Try.func40, Try.ntmps40
    go_wp2_with fail
    go_fit (HT.out _ (by repeat (first | exact Below.refl _ _ | refine Below.setCell ?_ (by simp <;> omega) _ | refine Below.alloc ?_ (by simp <;> omega) _)))
    rintro e w1 ⟨rfl, rfl⟩
    go_wp2_with fail
    refine bodyPost_ret (v := .tuple #[.agg #[.int .i64 1, .int .i64 0, .string z, .slice none 0 0], .int .i64 ((q : Int) + 1 + k2), .int .i64 0]) (by simp [results, Try.results40, go_sem]) rfl ⟨1, 0, z, none, 0, [], (q : Int) + 1 + k2, rfl, by repeat (first | exact Below.refl _ _ | refine Below.setCell ?_ (by simp <;> omega) _ | refine Below.alloc ?_ (by simp <;> omega) _), fun _ => ⟨rfl, by omega, by omega, by omega, by omega, by simp, ReadsS.nil _ _ _ _, q + 1 + k2, by omega, by omega, by rw [List.drop_drop]⟩⟩
  · rw [if_pos he]
    have HE := Lib.hid he
    clear he
    go_enter Try.func40, Try.ntmps40
    go_wp2_with fail
    go_fit (HT.out _ (by repeat (first | exact Below.refl _ _ | refine Below.setCell ?_ (by simp <;> omega) _ | refine Below.alloc ?_ (by simp <;> omega) _)))
    rintro e w1 ⟨rfl, rfl⟩
    go_wp2_with fail
    exact bodyPost_ret (v := .tuple #[.agg #[.int .i64 1, .int .i64 0, .string z, .slice none 0 0], .int .i64 ((q : Int) + 1 + k2), .int .i64 e2]) (by simp [results, Try.results40, go_sem]) rfl ⟨1, 0, z, none, 0, [], (q : Int) + 1 + k2, rfl, by repeat (first | exact Below.refl _ _ | refine Below.setCell ?_ (by simp <;> omega) _ | refine Below.alloc ?_ (by simp <;> omega) _), fun h => absurd h HE.out⟩

set_option maxHeartbeats 4000000 in
set_option maxRecDepth 100000 in
theorem take_bad (n : Nat) (hn : n < 128) (v : Option Addr) (cap : Nat) (l0 : List UInt8) (q : Nat) (w : World) (hq : q < l0.length) (hs : Src v cap l0 w) (hk : 2 < l0[q].toNat) :
    Calls Try.prog 40 #[.slice v l0.length cap, .int .i64 q, .int .i64 (128 - (n : Int))] w (TkPost l0 (n + 1) w (pField (n + 1) (l0.drop q))) := by
  have u0 : decide ((128 : Int) < 128 - (n : Int)) = false := by simp; omega
  have hl9 : l0.length ≤ 1099511627776 := hs.2.2.1
  obtain ⟨b, off, rfl, hlt, hc0⟩ := hs.2.2.2 q hq
  have hsl := fun w => slice_from (some ⟨b, off, none⟩) l0.length cap (q + 1) (by omega) w
  rw [show ((q + 1 : Nat) : Int) = (q : Int) + 1 from by omega] at hsl
  rw [List.drop_eq_getElem_cons hq]
  obtain ⟨k, hk0⟩ : ∃ k, k = l0[q] := ⟨_, rfl⟩
  rw [← hk0] at hc0 hk ⊢
  have HS := Lib.hid hs
  clear hs
  have hP : pField (n + 1) (k :: l0.drop (q + 1)) = (5, zeroF, []) := by rw [pField, if_neg (by omega), if_neg (by omega), if_neg (by omega)]
  rw [hP]
  obtain ⟨kk, hkk⟩ : ∃ kk, kk = k.toNat := ⟨_, rfl⟩
  have hq9 : k.toNat < 256 := k.toNat_lt
  rw [← hkk] at hc0 hk hq9
  clear hP hkk hk0 hsl
  go_enter Try.func40, Try.ntmps40
  go_wp2_with fail
  exact bodyPost_ret (v := .tuple #[.agg #[.int .i64 0, .int .i64 0, .string ⟨#[]⟩, .slice none 0 0], .int .i64 ((q : Int) + 1), .int .i64 5]) (by simp [results, Try.results40, go_sem]) rfl ⟨0, 0, ⟨#[]⟩, none, 0, [], (q : Int) + 1, rfl, by repeat (first | exact Below.refl _ _ | refine Below.setCell ?_ (by simp <;> omega) _ | refine Below.alloc ?_ (by simp <;> omega) _), fun h => by simp at h⟩

set_option maxHeartbeats 4000000 in
set_option maxRecDepth 100000 in
theorem take_list (n : Nat) (ih : Hid (ListOk n)) (hn : n < 128) (v : Option Addr) (cap : Nat) (l0 : List UInt8) (q : Nat) (w : World) (hq : q < l0.length) (hs : Src v cap l0 w) (hk : l0[q].toNat = 2) :
    Calls Try.prog 40 #[.slice v l0.length cap, .int .i64 q, .int .i64 (128 - (n : Int))] w (TkPost l0 (n + 1) w (pField (n + 1) (l0.drop q))) := by
  have u0 : decide ((128 : Int) < 128 - (n : Int)) = false := by simp; omega
  have hl9 : l0.length ≤ 1099511627776 := hs.2.2.1
  obtain ⟨b, off, rfl, hlt, hc0⟩ := hs.2.2.2 q hq
  have hsl := fun w => slice_from (some ⟨b, off, none⟩) l0.length cap (q + 1) (by omega) w
  rw [show ((q + 1 : Nat) : Int) = (q : Int) + 1 from by omega] at hsl
  rw [List.drop_eq_getElem_cons hq]
  obtain ⟨k, hk0⟩ : ∃ k, k = l0[q] := ⟨_, rfl⟩
  rw [← hk0] at hc0 hk ⊢
  rw [hk] at hc0
  have HS := Lib.hid hs
  clear hs
  have hP : pField (n + 1) (k :: l0.drop (q + 1)) = (if (pFields (pField n) (l0.drop (q + 1))).1 ≠ 0 then ((pFields (pField n) (l0.drop (q + 1))).1, zeroF, []) else (0, .mk 2 0 ⟨#[]⟩ (pFields (pField n) (l0.drop (q + 1))).2.1, (pFields (pField n) (l0.drop (q + 1))).2.2)) := by rw [pField, if_neg (by omega), if_neg (by omega), if_pos hk]
  rw [hP]
  have IH := Lib.hid (fun (w' : World) (hb : Below w.heap.size w w') (z t : Int) (hz : z = ((q + 1 : Nat) : Int)) (ht : t = 129 - (n : Int)) => hz ▸ ih.out (some ⟨b, off, none⟩) cap l0 (q + 1) w' t ht (by omega) (by omega) (HS.out.below hb))
  obtain ⟨p, hp⟩ : ∃ p, p = pFields (pField n) (l0.drop (q + 1)) := ⟨_, rfl⟩
  rw [← hp] at IH ⊢
  clear hP hp hk hk0 hsl
  by_cases he : p.1 = 0
  · rw [if_neg (by omega)]
    have HE := Lib.hid he
    clear he
    go_enter Try.func40, Try.ntmps40
    go_wp2_with fail
    go_fit (IH.out _ (by repeat (first | exact Below.refl _ _ | refine Below.setCell ?_ (by simp <;> omega) _ | refine Below.alloc ?_ (by simp <;> omega) _)) _ _ (by omega) (by omega))
    rintro e w1 ⟨v, c, z, rfl, hb, hok⟩
    have HBB := Lib.hid (Below.trans (B := w.heap.size) (a := w) (b := w.alloc (Obj.cells #[.int .i64 0, .int .i64 0, .string ⟨#[]⟩, .slice none 0 0] 48)) (by repeat (first | exact Below.refl _ _ | refine Below.setCell ?_ (by simp <;> omega) _ | refine Below.alloc ?_ (by simp <;> omega) _)) (hb.mono (by simp)))
    have HOK := Lib.hid hok
    have hz9 := hb.size
    simp at hz9
    have d0 := (hb.cell (p := ⟨w.heap.size, 0, none⟩) (by simp)).trans (show _ = some (Value.int .i64 0) by simp [World.cell?_alloc_new])
    have d1 := (hb.cell (p := ⟨w.heap.size, 1, none⟩) (by simp)).trans (show _ = some (Value.int .i64 0) by simp [World.cell?_alloc_new])
    have d2 := (hb.cell (p := ⟨w.heap.size, 2, none⟩) (by simp)).trans (show _ = some (Value.string ⟨#[]⟩) by simp [World.cell?_alloc_new])
    have d3 := (hb.cell (p := ⟨w.heap.size, 3, none⟩) (by simp)).trans (show _ = some (Value.slice none 0 0) by simp [World.cell?_alloc_new])
    have df0 := (hb.frozen (p := ⟨w.heap.size, 0, none⟩) (by simp)).trans (show _ = false by simp [go_sem])
    have df1 := (hb.frozen (p := ⟨w.heap.size, 1, none⟩) (by simp)).trans (show _ = false by simp [go_sem])
    have df2 := (hb.frozen (p := ⟨w.heap.size, 2, none⟩) (by simp)).trans (show _ = false by simp [go_sem])
    have df3 := (hb.frozen (p := ⟨w.heap.size, 3, none⟩) (by simp)).trans (show _ = false by simp [go_sem])
    clear hb hok
    obtain ⟨r1, r2, en, rfl, r3, r4⟩ := HOK.out HE.out
    have R2 := Lib.hid r2
    have R4 := Lib.hid r4
    have HE1 := Lib.hid (show ((p.1 : Nat) : Int) = 0 by rw [HE.out]; rfl)
    clear r2 r4 HOK
    go_wp2_with fail
    refine bodyPost_ret (v := .tuple #[.agg #[.int .i64 2, .int .i64 0, .string ⟨#[]⟩, .slice v p.2.1.length c], .int .i64 en, .int .i64 (p.1 : Nat)]) (by simp [results, Try.results40, go_sem, d0, d1, d2, d3]) rfl ⟨2, 0, ⟨#[]⟩, v, c, p.2.1, en, by rw [HE1.out]; rfl, ?_, fun _ => ⟨rfl, by omega, by omega, by omega, by omega, by omega, ?_, en, rfl, r3, R4.out⟩⟩
    · (repeat (with_reducible refine Below.setCell ?_ (by simp) _))
      exact HBB.out
    · refine ReadsS.move (by simp [World.setCell]) (fun b hb hS => ?_) n v p.2.1 R2.out
      simp at hS
      exact ⟨by omega, by rw [Below.heap_setCell _ _ _ b (by simp; omega), Below.heap_setCell _ _ _ b (by simp; omega), Below.heap_setCell _ _ _ b (by simp; omega), Below.heap_setCell _ _ _ b (by simp; omega)]⟩
  · rw [if_pos he]
    have HE := Lib.hid he
    clear he
    go_enter Try.func40, Try.ntmps40
    go_wp2_with fail
    go_fit (IH.out _ (by repeat (first | exact Below.refl _ _ | refine Below.setCell ?_ (by simp <;> omega) _ | refine Below.alloc ?_ (by simp <;> omega) _)) _ _ (by omega) (by omega))
    rintro e w1 ⟨v, c, z, rfl, hb, hok⟩
    have HBB := Lib.hid (Below.trans (B := w.heap.size) (a := w) (b := w.alloc (Obj.cells #[.int .i64 0, .int .i64 0, .string ⟨#[]⟩, .slice none 0 0] 48)) (by repeat (first | exact Below.refl _ _ | refine Below.setCell ?_ (by simp <;> omega) _ | refine Below.alloc ?_ (by simp <;> omega) _)) (hb.mono (by simp)))
    have HOK := Lib.hid hok
    have hz9 := hb.size
    simp at hz9
    have d0 := (hb.cell (p := ⟨w.heap.size, 0, none⟩) (by simp)).trans (show _ = some (Value.int .i64 0) by simp [World.cell?_alloc_new])
    have d1 := (hb.cell (p := ⟨w.heap.size, 1, none⟩) (by simp)).trans (show _ = some (Value.int .i64 0) by simp [World.cell?_alloc_new])
    have d2 := (hb.cell (p := ⟨w.heap.size, 2, none⟩) (by simp)).trans (show _ = some (Value.string ⟨#[]⟩) by simp [World.cell?_alloc_new])
    have d3 := (hb.cell (p := ⟨w.heap.size, 3, none⟩) (by simp)).trans (show _ = some (Value.slice none 0 0) by simp [World.cell?_alloc_new])
    have df0 := (hb.frozen (p := ⟨w.heap.size, 0, none⟩) (by simp)).trans (show _ = false by simp [go_sem])
    have df1 := (hb.frozen (p := ⟨w.heap.size, 1, none⟩) (by simp)).trans (show _ = false by simp [go_sem])
    have df2 := (hb.frozen (p := ⟨w.heap.size, 2, none⟩) (by simp)).trans (show _ = false by simp [go_sem])
    have df3 := (hb.frozen (p := ⟨w.heap.size, 3, none⟩) (by simp)).trans (show _ = false by simp [go_sem])
    clear hb hok
    clear HOK
    go_wp2_with fail
    refine bodyPost_ret (v := .tuple #[.agg #[.int .i64 2, .int .i64 0, .string ⟨#[]⟩, .slice v p.2.1.length c], .int .i64 z, .int .i64 (p.1 : Nat)]) (by simp [results, Try.results40, go_sem, d0, d1, d2, d3]) rfl ⟨2, 0, ⟨#[]⟩, v, c, p.2.1, z, rfl, ?_, fun h => absurd h HE.out⟩
    (repeat (with_reducible refine Below.setCell ?_ (by simp) _))
    exact HBB.out

theorem TakeOk_all : ∀ n, TakeOk n
  | 0 => by
    intro v cap l0 i w t ht _ _ _
    obtain rfl : t = 129 := by omega
    exact take_deep v cap l0 i w
  | n + 1 => by
    intro v cap l0 i w t ht hn hi hs
    obtain rfl : t = 128 - (n : Int) := by omega
    by_cases hq : i = l0.length
    · exact take_empty n (by omega) v cap l0 i w hq hs
    · have hq2 : i < l0.length := by omega
      by_cases k0 : l0[i].toNat = 0
      · exact take_int n (by omega) v cap l0 i w hq2 hs k0
      · by_cases k1 : l0[i].toNat = 1
        · exact take_str n (by omega) v cap l0 i w hq2 hs k1
        · by_cases k2 : l0[i].toNat = 2
          · exact take_list n (Lib.hid (list_of n (Lib.hid (TakeOk_all n)))) (by omega) v cap l0 i w hq2 hs k2
          · exact take_bad n (by omega) v cap l0 i w hq2 hs (by omega)
theorem ListOk_all (n : Nat) : ListOk n := list_of n (Lib.hid (TakeOk_all n))
end Go.Proofs.Ytfnjemocekgncaa
