/- The contracts of the document's Permits, Can and Implies (label). -/
import Derived.Test.YtglckcenjnieaaaGreatDoorLdI
namespace Go.Proofs.YtglckcenjnieaaaGreatDoor
open Go.RowKit Go.Lib

/-- A block of four cells. -/
structure CasL (w : World) (b : Nat) (a0 a1 a2 a3 : Value) : Prop where
  blk : w.heap[b]? = some (.cells #[a0, a1, a2, a3] 58 (0, 0))
theorem CasL.lt {w : World} {b : Nat} {a0 a1 a2 a3 : Value} (h : CasL w b a0 a1 a2 a3) : b < w.heap.size := (Array.getElem?_eq_some_iff.1 h.blk).1
theorem CasL.facts {w : World} {b : Nat} {a0 a1 a2 a3 : Value} (h : CasL w b a0 a1 a2 a3) : w.cell? ⟨b, 0, none⟩ = some a0 ∧ w.cell? ⟨b, 1, none⟩ = some a1 ∧ w.cell? ⟨b, 2, none⟩ = some a2 ∧ w.cell? ⟨b, 3, none⟩ = some a3 := by
  have h := h.blk
  refine ⟨?_, ?_, ?_, ?_⟩ <;> simp [World.cell?, h]
theorem CasL.froz {w : World} {b : Nat} {a0 a1 a2 a3 : Value} (h : CasL w b a0 a1 a2 a3) : w.frozen? ⟨b, 0, none⟩ = false ∧ w.frozen? ⟨b, 1, none⟩ = false ∧ w.frozen? ⟨b, 2, none⟩ = false ∧ w.frozen? ⟨b, 3, none⟩ = false := by
  have h := h.blk
  refine ⟨?_, ?_, ?_, ?_⟩ <;> simp [World.frozen?, h]
theorem CasL.below {w w' : World} {b : Nat} {a0 a1 a2 a3 : Value} (h : CasL w b a0 a1 a2 a3) (hb : Below w.heap.size w w') : CasL w' b a0 a1 a2 a3 := ⟨(hb.block b h.lt).trans h.blk⟩
theorem CasL.alloc {w : World} {b : Nat} {a0 a1 a2 a3 : Value} (h : CasL w b a0 a1 a2 a3) (o : Obj) : CasL (w.alloc o) b a0 a1 a2 a3 := ⟨(Below.heap_alloc w o b h.lt).trans h.blk⟩
theorem CasL.new (w : World) (a0 a1 a2 a3 : Value) : CasL (w.alloc (.cells #[a0, a1, a2, a3] 58)) w.heap.size a0 a1 a2 a3 := ⟨heap_alloc_new w _⟩
theorem CasL.set {w : World} {b : Nat} {a0 a1 a2 a3 : Value} (h : CasL w b a0 a1 a2 a3) (x0 x1 x2 x3 : Value) : CasL ((((w.setCell ⟨b, 0, none⟩ x0).setCell ⟨b, 1, none⟩ x1).setCell ⟨b, 2, none⟩ x2).setCell ⟨b, 3, none⟩ x3) b x0 x1 x2 x3 := by
  have h := h.blk
  constructor
  simp [World.setCell, Array.getElem?_modify, h]
theorem CasL.other {w : World} {b c : Nat} {a0 a1 a2 a3 : Value} (h : CasL w b a0 a1 a2 a3) (hne : c ≠ b) (x0 x1 x2 x3 : Value) : CasL ((((w.setCell ⟨c, 0, none⟩ x0).setCell ⟨c, 1, none⟩ x1).setCell ⟨c, 2, none⟩ x2).setCell ⟨c, 3, none⟩ x3) b a0 a1 a2 a3 := by
  have h := h.blk
  constructor
  simp [World.setCell, Array.getElem?_modify, h, hne]
/-- What Permits carries: the result's block and the case so far. -/
structure PermH (w w1 : World) (b : Nat) (c : DCase) : Prop where
  res : CasL w1 w.heap.size (.bool false) (.bool false) (.int .i64 0) (.int .i64 0)
  cur : CasL w1 b (.bool c.ab) (.bool c.pl) (.int .i64 c.lo) (.int .i64 c.hi)
  ge : w.heap.size < b
  bel : Below w.heap.size w w1
theorem PermH.below {w w1 w2 : World} {b : Nat} {c : DCase} (h : PermH w w1 b c) (hb : Below w1.heap.size w1 w2) : PermH w w2 b c :=
  ⟨h.res.below hb, h.cur.below hb, h.ge, h.bel.trans (hb.mono h.bel.size)⟩
theorem PermH.set {w w1 : World} {b : Nat} {c : DCase} (h : PermH w w1 b c) (d : DCase) : PermH w ((((w1.setCell ⟨b, 0, none⟩ (.bool d.ab)).setCell ⟨b, 1, none⟩ (.bool d.pl)).setCell ⟨b, 2, none⟩ (.int .i64 d.lo)).setCell ⟨b, 3, none⟩ (.int .i64 d.hi)) b d :=
  ⟨h.res.other (by have := h.ge; omega) _ _ _ _, h.cur.set _ _ _ _, h.ge, (((h.bel.setCell (by have := h.ge; show w.heap.size ≤ b; omega) _).setCell (by have := h.ge; show w.heap.size ≤ b; omega) _).setCell (by have := h.ge; show w.heap.size ≤ b; omega) _).setCell (by have := h.ge; show w.heap.size ≤ b; omega) _⟩
theorem foldl_take {L : List (List UInt8)} {a : List UInt8} {c : DCase} {j : Nat} (h : j < L.length) : (L.take (j + 1)).foldl (stepD a) c = stepD a ((L.take j).foldl (stepD a) c) L[j] := by
  rw [List.take_succ_eq_append_getElem h, List.foldl_append]
  rfl
set_option maxHeartbeats 4000000 in
set_option maxRecDepth 100000 in
theorem perm_any (v : Option Addr) (cap : Nat) (L : List (List UInt8)) (sa : ByteArray) (hlen : L.length ≤ 1000000) (hx : ∀ x ∈ L, x.length ≤ 1000000) (w : World) (hr : ReadsStr w v L) :
    Calls Tryz.prog 40 #[.slice v L.length cap, .string sa] w fun e w' => e = .returned (ofC (permD L sa.data.toList)) ∧ Below w.heap.size w w' := by
  have HR := Lib.hid hr
  have HX := Lib.hid hx
  obtain ⟨E, hE⟩ : ∃ E, E = permD L sa.data.toList := ⟨_, rfl⟩
  rw [← hE]
  have HE := Lib.hid (show E = L.foldl (stepD sa.data.toList) ⟨true, true, 0, 9007199254740992⟩ from hE)
  clear hr hx hE
  have H0 := Lib.hid (show PermH w ((w.alloc (.cells #[.bool false, .bool false, .int .i64 0, .int .i64 0] 58)).alloc (.cells #[.bool true, .bool true, .int .i64 0, .int .i64 9007199254740992] 58)) (w.heap.size + 1) ⟨true, true, 0, 9007199254740992⟩ from by
    refine ⟨(CasL.new w _ _ _ _).alloc _, ?_, by omega, ((Below.refl _ _).alloc (Nat.le_refl _) _).alloc (by simp) _⟩
    have := CasL.new (w.alloc (.cells #[.bool false, .bool false, .int .i64 0, .int .i64 0] 58)) (.bool true) (.bool true) (.int .i64 0) (.int .i64 9007199254740992)
    rwa [show (w.alloc (.cells #[.bool false, .bool false, .int .i64 0, .int .i64 0] 58)).heap.size = w.heap.size + 1 by simp] at this)
  go_enter Tryz.func40, Tryz.ntmps40
  go_wp2_with fail
  go_loopw [6] (fun s6 wr => ∃ (j : Nat) (c : DCase), j ≤ L.length ∧ s6 = .int .i64 (j : Int) ∧ Hid ((L.take j).foldl (stepD sa.data.toList) ⟨true, true, 0, 9007199254740992⟩ = c) ∧ Hid (PermH w wr (w.heap.size + 1) c)) (fun s6 _ => L.length - (RowKit.intOf s6).toNat)
  case atStart => exact ⟨0, _, by omega, rfl, Lib.hid rfl, H0⟩
  case round =>
    obtain ⟨j, c, hj, rfl, HC, HP⟩ := hrel
    have z1 := HP.out.bel.size
    obtain ⟨ab, pl, lo, hi⟩ := c
    by_cases hlt : j < L.length
    · obtain ⟨b, off, rfl, hbl, hc⟩ := (HR.out.below HP.out.bel) j hlt
      have hxl := HX.out _ (List.getElem_mem hlt)
      have HS := Lib.hid (foldl_take (a := sa.data.toList) (c := ⟨true, true, 0, 9007199254740992⟩) hlt)
      obtain ⟨x, hxe⟩ : ∃ x, x = L[j] := ⟨_, rfl⟩
      rw [← hxe] at hc hxl HS
      rw [HC.out] at HS
      obtain ⟨sx, hsx⟩ : ∃ s : ByteArray, s = ⟨x.toArray⟩ := ⟨_, rfl⟩
      rw [← hsx] at hc
      obtain ⟨⟨f, a, n⟩, hd⟩ : ∃ d, d = readD x := ⟨_, rfl⟩
      obtain ⟨sb, hsb⟩ : ∃ s : ByteArray, s = ⟨a.toArray⟩ := ⟨_, rfl⟩
      have R := fun w => read_any sx (by rw [hsx]; show x.toArray.size ≤ _; simp; omega) w
      rw [show sx.data.toList = x by rw [hsx], ← hd] at R
      dsimp only [ofD] at R
      rw [← hsb] at R
      have R := Lib.hid R
      have hst : stepD sa.data.toList ⟨ab, pl, lo, hi⟩ x = if f ≠ 0 ∧ sb.data.toList = sa.data.toList then meetD ⟨ab, pl, lo, hi⟩ (f, sb.data.toList, n) else ⟨ab, pl, lo, hi⟩ := by
        unfold stepD
        rw [← hd, hsb]
      have HST := Lib.hid hst
      have hjj : (j : Int) < (L.length : Int) := by omega
      have hj0' : (0 : Int) ≤ (j : Int) := by omega
      clear hxe hsx hd hsb hst hxl
      go_wp2_with fail
      go_fit (R.out _)
      rintro e w2 ⟨rfl, hb⟩
      have HP2 := Lib.hid ((HP.out.below hb).below ((Below.refl w2.heap.size w2).alloc (Nat.le_refl _) (.cells #[.int .i64 f, .string sb, .int .i64 n] 36)))
      have z2 := hb.size
      clear hb hc
      obtain ⟨c0, c1, c2, c3⟩ := HP2.out.cur.facts
      dsimp only at c0 c1 c2 c3
      by_cases f0 : f = 0
      · subst f0
        have HN := Lib.hid (show (L.take (j + 1)).foldl (stepD sa.data.toList) ⟨true, true, 0, 9007199254740992⟩ = ⟨ab, pl, lo, hi⟩ by rw [HS.out, HST.out, if_neg (fun e => e.1 rfl)])
        clear c0 c1 c2 c3
        go_wp2_with fail
        exact ⟨⟨j + 1, _, by omega, by go_num, HN, HP2⟩, by simp [RowKit.intOf]; omega⟩
      have u0 : (f != 0) = true := by simpa using f0
      by_cases hn : sb.data.toList = sa.data.toList
      · have uq : (sb.toList == sa.toList) = true := by rw [Lib.toList_data, Lib.toList_data, hn]; simp
        obtain ⟨⟨ab', pl', lo', hi'⟩, hm⟩ : ∃ c, c = meetD ⟨ab, pl, lo, hi⟩ (f, sb.data.toList, n) := ⟨_, rfl⟩
        have HN := Lib.hid (show (L.take (j + 1)).foldl (stepD sa.data.toList) ⟨true, true, 0, 9007199254740992⟩ = ⟨ab', pl', lo', hi'⟩ by rw [HS.out, HST.out, if_pos ⟨f0, hn⟩, ← hm])
        have M := fun w => meet_any ab pl lo hi f n sb w
        rw [← hm] at M
        dsimp only [ofC] at M
        have M := Lib.hid M
        clear hm hn
        go_wp2_with fail
        go_fit (M.out _)
        rintro e w3 ⟨rfl, hb⟩
        have HP3 := Lib.hid (HP2.out.below hb)
        clear hb c0 c1 c2 c3
        obtain ⟨c0, c1, c2, c3⟩ := HP3.out.cur.facts
        obtain ⟨z0, z1, z2, z3⟩ := HP3.out.cur.froz
        dsimp only at c0 c1 c2 c3
        have HP4 := Lib.hid (HP3.out.set ⟨ab', pl', lo', hi'⟩)
        go_wp2_with fail
        exact ⟨⟨j + 1, _, by omega, by go_num, HN, HP4⟩, by simp [RowKit.intOf]; omega⟩
      · have uq : (sb.toList == sa.toList) = false := by rw [Lib.toList_data, Lib.toList_data, beq_eq_false_iff_ne]; exact hn
        have HN := Lib.hid (show (L.take (j + 1)).foldl (stepD sa.data.toList) ⟨true, true, 0, 9007199254740992⟩ = ⟨ab, pl, lo, hi⟩ by rw [HS.out, HST.out, if_neg (fun e => hn e.2)])
        clear c0 c1 c2 c3 hn
        go_wp2_with fail
        exact ⟨⟨j + 1, _, by omega, by go_num, HN, HP2⟩, by simp [RowKit.intOf]; omega⟩
    · obtain rfl : j = L.length := by omega
      have HN := Lib.hid (show E = ⟨ab, pl, lo, hi⟩ by rw [HE.out, ← HC.out, List.take_length])
      obtain ⟨c0, c1, c2, c3⟩ := HP.out.cur.facts
      obtain ⟨d0, d1, d2, d3⟩ := HP.out.res.facts
      obtain ⟨y0, y1, y2, y3⟩ := HP.out.res.froz
      dsimp only at c0 c1 c2 c3
      go_wp2_with fail
      refine bodyPost_ret (v := .agg #[.bool ab, .bool pl, .int .i64 lo, .int .i64 hi]) ?_ rfl ⟨by rw [HN.out]; rfl, ?_⟩
      · rw [results_cellL rfl]
        go_simp
      · exact (((HP.out.bel.setCell (Nat.le_refl _) _).setCell (Nat.le_refl _) _).setCell (Nat.le_refl _) _).setCell (Nat.le_refl _) _
set_option maxHeartbeats 4000000 in
set_option maxRecDepth 100000 in
theorem can_any (v : Option Addr) (cap : Nat) (L : List (List UInt8)) (hlen : L.length ≤ 1000000) (hx : ∀ x ∈ L, x.length ≤ 1000000) (w : World) (hr : ReadsStr w v L) :
    Calls Tryz.prog 38 #[.slice v L.length cap] w fun e w' => e = .returned (.bool (canD L)) ∧ Below w.heap.size w w' := by
  have PA := Lib.hid (fun sa w' (hb : Below w.heap.size w w') => perm_any v cap L sa hlen hx w' (hr.below hb))
  have HR := Lib.hid hr
  have HX := Lib.hid hx
  have HO := Lib.hid (show canD L = L.all fun y => decide ((readD y).1 ≠ 0) && possD (permD L (readD y).2.1) from rfl)
  clear hr hx
  go_enter Tryz.func38, Tryz.ntmps38
  go_wp2_with fail
  go_loopw [3] (fun s3 wr => ∃ j : Nat, j ≤ L.length ∧ s3 = .int .i64 (j : Int) ∧ Hid ((L.drop j).all (fun y => decide ((readD y).1 ≠ 0) && possD (permD L (readD y).2.1)) = canD L) ∧ Hid (Below w.heap.size w wr)) (fun s3 _ => L.length - (RowKit.intOf s3).toNat)
  case atStart => exact ⟨0, by omega, rfl, Lib.hid (by rw [List.drop_zero, HO.out]), Lib.hid (Below.refl _ _)⟩
  case round =>
    obtain ⟨j, hj, rfl, HA, HB⟩ := hrel
    by_cases hlt : j < L.length
    · obtain ⟨b, off, rfl, hbl, hc⟩ := (HR.out.below HB.out) j hlt
      have hxl := HX.out _ (List.getElem_mem hlt)
      have HD := Lib.hid (show (L.drop j).all (fun y => decide ((readD y).1 ≠ 0) && possD (permD L (readD y).2.1)) = ((decide ((readD L[j]).1 ≠ 0) && possD (permD L (readD L[j]).2.1)) && (L.drop (j + 1)).all fun y => decide ((readD y).1 ≠ 0) && possD (permD L (readD y).2.1)) by rw [List.drop_eq_getElem_cons hlt, List.all_cons])
      obtain ⟨x, hxe⟩ : ∃ x, x = L[j] := ⟨_, rfl⟩
      rw [← hxe] at hc hxl HD
      obtain ⟨sx, hsx⟩ : ∃ s : ByteArray, s = ⟨x.toArray⟩ := ⟨_, rfl⟩
      rw [← hsx] at hc
      obtain ⟨⟨f, a, n⟩, hd⟩ : ∃ d, d = readD x := ⟨_, rfl⟩
      obtain ⟨sb, hsb⟩ : ∃ s : ByteArray, s = ⟨a.toArray⟩ := ⟨_, rfl⟩
      have R := fun w => read_any sx (by rw [hsx]; show x.toArray.size ≤ _; simp; omega) w
      rw [show sx.data.toList = x by rw [hsx], ← hd] at R
      dsimp only [ofD] at R
      rw [← hsb] at R
      have R := Lib.hid R
      rw [← hd] at HD
      dsimp only at HD
      obtain ⟨⟨ab, pl, lo, hi⟩, hcc⟩ : ∃ c, c = permD L a := ⟨_, rfl⟩
      have PB := fun w' hb => PA.out sb w' hb
      rw [show sb.data.toList = a by rw [hsb], ← hcc] at PB
      dsimp only [ofC] at PB
      have PB := Lib.hid PB
      have PS := Lib.hid (fun w' => poss_any ab pl lo hi w')
      rw [← hcc] at HD
      have hjj : (j : Int) < (L.length : Int) := by omega
      have hj0' : (0 : Int) ≤ (j : Int) := by omega
      clear hxe hsx hd hsb hxl hcc
      generalize possD ⟨ab, pl, lo, hi⟩ = r at *
      go_wp2_with fail
      go_fit (R.out _)
      rintro e w2 ⟨rfl, hb⟩
      have B2 := Lib.hid ((HB.out.trans (hb.mono HB.out.size)).alloc (HB.out.trans (hb.mono HB.out.size)).size (.cells #[.int .i64 f, .string sb, .int .i64 n] 36))
      clear hb hc
      by_cases f0 : f = 0
      · subst f0
        have HN := Lib.hid (show canD L = false by rw [← HA.out, HD.out]; simp)
        go_wp2_with fail
        go_ret
        exact ⟨by rw [HN.out]; rfl, B2.out⟩
      have u0 : (f == 0) = false := by rw [beq_eq_false_iff_ne]; exact f0
      go_wp2_with fail
      go_fit (PB.out _ B2.out)
      rintro e w3 ⟨rfl, hb⟩
      have B3 := Lib.hid (B2.out.trans (hb.mono B2.out.size))
      clear hb
      go_wp2_with fail
      go_fit (PS.out _)
      rintro e w4 ⟨rfl, hb⟩
      have B4 := Lib.hid (B3.out.trans (hb.mono B3.out.size))
      clear hb
      cases r
      · have HN := Lib.hid (show canD L = false by rw [← HA.out, HD.out]; simp)
        go_wp2_with fail
        go_ret
        exact ⟨by rw [HN.out]; rfl, B4.out⟩
      · have HN := Lib.hid (show (L.drop (j + 1)).all (fun y => decide ((readD y).1 ≠ 0) && possD (permD L (readD y).2.1)) = canD L by rw [← HA.out, HD.out]; simp [f0])
        go_wp2_with fail
        exact ⟨⟨j + 1, by omega, by go_num, HN, B4⟩, by simp [RowKit.intOf]; omega⟩
    · obtain rfl : j = L.length := by omega
      have HN := Lib.hid (show canD L = true by rw [← HA.out, List.drop_eq_nil_of_le (Nat.le_refl _)]; rfl)
      go_wp2_with fail
      go_ret
      exact ⟨by rw [HN.out]; rfl, HB.out⟩

/-- What Implies' last line stands on. -/
structure ImpD (w w1 : World) (p : Nat) (f : Int) (a : ByteArray) (n : Int) : Prop where
  thr : ThrL w1 p 36 (.int .i64 f) (.string a) (.int .i64 n)
  bel : Below w.heap.size w w1
theorem ImpD.t {w w1 w2 : World} {p : Nat} {f : Int} {a : ByteArray} {n : Int} (h : w1.cell? ⟨p, 0, none⟩ = some (.int .i64 f) ∧ w1.cell? ⟨p, 1, none⟩ = some (.string a) ∧ ImpD w w1 p f a n) (hb : Below w1.heap.size w1 w2) :
    w2.cell? ⟨p, 0, none⟩ = some (.int .i64 f) ∧ w2.cell? ⟨p, 1, none⟩ = some (.string a) ∧ ImpD w w2 p f a n :=
  have h2 := h.2.2.thr.below hb
  ⟨h2.facts.1, h2.facts.2.1, h2, h.2.2.bel.trans (hb.mono h.2.2.bel.size)⟩
theorem ImpD.b {w w1 : World} {p : Nat} {f : Int} {a : ByteArray} {n : Int} (h : w1.cell? ⟨p, 0, none⟩ = some (.int .i64 f) ∧ w1.cell? ⟨p, 1, none⟩ = some (.string a) ∧ ImpD w w1 p f a n) : Below w.heap.size w w1 := h.2.2.bel
set_option maxHeartbeats 4000000 in
set_option maxRecDepth 100000 in
theorem rImplies_any (v v' : Option Addr) (cap cap' : Nat) (L M : List (List UInt8)) (hlen : L.length ≤ 1000000) (hx : ∀ x ∈ L, x.length ≤ 1000000) (hlen' : M.length ≤ 1000000) (hx' : ∀ x ∈ M, x.length ≤ 1000000) (w : World) (hr : ReadsStr w v L) (hr' : ReadsStr w v' M) :
    Calls Tryz.prog 19 #[.slice v L.length cap, .slice v' M.length cap'] w fun e w' => e = .returned (.bool (impD L M)) ∧ Below w.heap.size w w' := by
  have PA := Lib.hid (fun sa w' (hb : Below w.heap.size w w') => perm_any v cap L sa hlen hx w' (hr.below hb))
  have PB := Lib.hid (fun sa w' (hb : Below w.heap.size w w') => perm_any v' cap' M sa hlen' hx' w' (hr'.below hb))
  have CA := Lib.hid (can_any v cap L hlen hx w hr)
  have HR := Lib.hid hr'
  have HX := Lib.hid hx'
  clear hr hx hr' hx'
  cases hcn : canD L
  · have HN := Lib.hid (show impD L M = true by unfold impD; rw [hcn]; rfl)
    rw [hcn] at CA
    clear hcn
    go_enter Tryz.func19, Tryz.ntmps19
    go_wp2_with fail
    go_fit CA.out
    rintro e w1 ⟨rfl, hb⟩
    have B1 := Lib.hid hb
    clear hb
    go_wp2_with fail
    go_ret
    exact ⟨by rw [HN.out]; rfl, B1.out⟩
  have HO := Lib.hid (show impD L M = M.all fun y => decide ((readD y).1 ≠ 0) && withinD (permD L (readD y).2.1) (permD M (readD y).2.1) by unfold impD; rw [if_pos hcn])
  rw [hcn] at CA
  clear hcn
  go_enter Tryz.func19, Tryz.ntmps19
  go_wp2_with fail
  go_fit CA.out
  rintro e w1 ⟨rfl, hb⟩
  have B1 := Lib.hid hb
  clear hb
  go_wp2_with fail
  go_loopw [5] (fun s5 wr => ∃ j : Nat, j ≤ M.length ∧ s5 = .int .i64 (j : Int) ∧ Hid ((M.drop j).all (fun y => decide ((readD y).1 ≠ 0) && withinD (permD L (readD y).2.1) (permD M (readD y).2.1)) = impD L M) ∧ Hid (Below w.heap.size w wr)) (fun s5 _ => M.length - (RowKit.intOf s5).toNat)
  case atStart => exact ⟨0, by omega, rfl, Lib.hid (by rw [List.drop_zero, HO.out]), B1⟩
  case round =>
    obtain ⟨j, hj, rfl, HA, HB⟩ := hrel
    by_cases hlt : j < M.length
    · obtain ⟨b, off, rfl, hbl, hc⟩ := (HR.out.below HB.out) j hlt
      have hxl := HX.out _ (List.getElem_mem hlt)
      have HD := Lib.hid (show (M.drop j).all (fun y => decide ((readD y).1 ≠ 0) && withinD (permD L (readD y).2.1) (permD M (readD y).2.1)) = ((decide ((readD M[j]).1 ≠ 0) && withinD (permD L (readD M[j]).2.1) (permD M (readD M[j]).2.1)) && (M.drop (j + 1)).all fun y => decide ((readD y).1 ≠ 0) && withinD (permD L (readD y).2.1) (permD M (readD y).2.1)) by rw [List.drop_eq_getElem_cons hlt, List.all_cons])
      obtain ⟨x, hxe⟩ : ∃ x, x = M[j] := ⟨_, rfl⟩
      rw [← hxe] at hc hxl HD
      obtain ⟨sx, hsx⟩ : ∃ s : ByteArray, s = ⟨x.toArray⟩ := ⟨_, rfl⟩
      rw [← hsx] at hc
      obtain ⟨⟨f, a, n⟩, hd⟩ : ∃ d, d = readD x := ⟨_, rfl⟩
      obtain ⟨sb, hsb⟩ : ∃ s : ByteArray, s = ⟨a.toArray⟩ := ⟨_, rfl⟩
      have R := fun w => read_any sx (by rw [hsx]; show x.toArray.size ≤ _; simp; omega) w
      rw [show sx.data.toList = x by rw [hsx], ← hd] at R
      dsimp only [ofD] at R
      rw [← hsb] at R
      have R := Lib.hid R
      rw [← hd] at HD
      dsimp only at HD
      obtain ⟨⟨ab, pl, lo, hi⟩, hc1⟩ : ∃ c, c = permD L a := ⟨_, rfl⟩
      obtain ⟨⟨ab', pl', lo', hi'⟩, hc2⟩ : ∃ c, c = permD M a := ⟨_, rfl⟩
      have PA1 := fun w' hb => PA.out sb w' hb
      have PB1 := fun w' hb => PB.out sb w' hb
      rw [show sb.data.toList = a by rw [hsb], ← hc1] at PA1
      rw [show sb.data.toList = a by rw [hsb], ← hc2] at PB1
      dsimp only [ofC] at PA1 PB1
      have PA1 := Lib.hid PA1
      have PB1 := Lib.hid PB1
      have WI := Lib.hid (fun w' => within_any ab pl ab' pl' lo hi lo' hi' w')
      rw [← hc1, ← hc2] at HD
      have hjj : (j : Int) < (M.length : Int) := by omega
      have hj0' : (0 : Int) ≤ (j : Int) := by omega
      clear hxe hsx hd hsb hxl hc1 hc2
      generalize withinD ⟨ab, pl, lo, hi⟩ ⟨ab', pl', lo', hi'⟩ = r at *
      go_wp2_with fail
      go_fit (R.out _)
      rintro e w2 ⟨rfl, hb⟩
      have hB2 := (HB.out.trans (hb.mono HB.out.size)).alloc (HB.out.trans (hb.mono HB.out.size)).size (.cells #[.int .i64 f, .string sb, .int .i64 n] 36)
      have hT2 := ThrL.new w2 36 (.int .i64 f) (.string sb) (.int .i64 n)
      clear hb hc
      by_cases f0 : f = 0
      · subst f0
        have HN := Lib.hid (show impD L M = false by rw [← HA.out, HD.out]; simp)
        have B2 := Lib.hid hB2
        clear hB2 hT2
        go_upto_region 7 with fail
        go_quiet (fail)
        have BQ := Lib.hid (below_drewN B2.out nq)
        go_wp2_with fail
        go_ret
        exact ⟨by rw [HN.out]; rfl, BQ.out⟩
      have u0 : (f == 0) = false := by rw [beq_eq_false_iff_ne]; exact f0
      go_upto_region 7 with fail
      obtain ⟨wA, hwA⟩ : ∃ wA, wA = w2.alloc (.cells #[.int .i64 f, .string sb, .int .i64 n] 36) := ⟨_, rfl⟩
      rw [← hwA] at hB2 hT2 ⊢
      generalize w2.heap.size = p1 at *
      have hs1 := ImpD.t (w := w) ⟨hT2.facts.1, hT2.facts.2.1, hT2, hB2⟩ (Below.refl wA.heap.size wA).drew
      clear hwA hB2 hT2
      cases r
      · have HN := Lib.hid (show impD L M = false by rw [← HA.out, HD.out]; simp)
        go_region_held3 (fun w' => w'.cell? ⟨p1, 0, none⟩ = some (.int .i64 f) ∧ w'.cell? ⟨p1, 1, none⟩ = some (.string sb) ∧ ImpD w w' p1 f sb n) (first | exact hs1 | assumption | exact ImpD.t (by assumption) (by assumption)) (first | (go_at_call 40; (first | go_fit (PA1.out _ (ImpD.b (p := p1) (f := f) (a := sb) (n := n) (by assumption))) | go_fit (PB1.out _ (ImpD.b (p := p1) (f := f) (a := sb) (n := n) (by assumption)))); rintro e w5 ⟨rfl, hb5⟩) | (go_at_call 39; go_fit (WI.out _); rintro e w6 ⟨rfl, hb6⟩))
        all_goals
          go_wp2_with fail
          go_ret
          exact ⟨by rw [HN.out]; rfl, ImpD.b (p := p1) (f := f) (a := sb) (n := n) (by assumption)⟩
      · have HN := Lib.hid (show (M.drop (j + 1)).all (fun y => decide ((readD y).1 ≠ 0) && withinD (permD L (readD y).2.1) (permD M (readD y).2.1)) = impD L M by rw [← HA.out, HD.out]; simp [f0])
        go_region_held3 (fun w' => w'.cell? ⟨p1, 0, none⟩ = some (.int .i64 f) ∧ w'.cell? ⟨p1, 1, none⟩ = some (.string sb) ∧ ImpD w w' p1 f sb n) (first | exact hs1 | assumption | exact ImpD.t (by assumption) (by assumption)) (first | (go_at_call 40; (first | go_fit (PA1.out _ (ImpD.b (p := p1) (f := f) (a := sb) (n := n) (by assumption))) | go_fit (PB1.out _ (ImpD.b (p := p1) (f := f) (a := sb) (n := n) (by assumption)))); rintro e w5 ⟨rfl, hb5⟩) | (go_at_call 39; go_fit (WI.out _); rintro e w6 ⟨rfl, hb6⟩))
        all_goals
          go_wp2_with fail
          exact ⟨⟨j + 1, by omega, by go_num, HN, Lib.hid (ImpD.b (p := p1) (f := f) (a := sb) (n := n) (by assumption))⟩, by simp [RowKit.intOf]; omega⟩
    · obtain rfl : j = M.length := by omega
      have HN := Lib.hid (show impD L M = true by rw [← HA.out, List.drop_eq_nil_of_le (Nat.le_refl _)]; rfl)
      go_wp2_with fail
      go_ret
      exact ⟨by rw [HN.out]; rfl, HB.out⟩
end Go.Proofs.YtglckcenjnieaaaGreatDoor
