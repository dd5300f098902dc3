/- Contract of the program's first (glob): literal bytes and classes; the whole. -/
import Derived.Test.YtaalfnfikjmomaaGlbZa
namespace Go.Proofs.Ytaalfnfikjmomaa
open Go.RowKit Go.Lib
theorem elemL_lit {l : List UInt8} {c : UInt8} {r : List UInt8} (hl : l = c :: r) (h1 : c ≠ 42) (h2 : c ≠ 63) (h3 : c ≠ 91) (h4 : c ≠ 92) : elemL l = some (⟨5, [(c, c)]⟩, r) := by
  rw [hl, elemL, if_neg h1, if_neg h2, if_neg h3, if_neg h4]
theorem elemL_esc {l : List UInt8} {r : List UInt8} (hl : l = 92 :: r) : elemL l = r.head?.map fun d => (⟨5, [(d, d)]⟩, r.tail) := by
  rw [hl, elemL, if_neg (by decide), if_neg (by decide), if_neg (by decide), if_pos rfl]
theorem elemL_cls {l : List UInt8} {r : List UInt8} (hl : l = 91 :: r) : elemL l = (match classL r with | none => none | some (its, r2) => if its = [] then none else some (⟨4, its⟩, r2)) := by
  rw [hl, elemL, if_neg (by decide), if_neg (by decide), if_pos rfl]
  rfl
set_option maxHeartbeats 2000000 in
theorem first_lit (s : ByteArray) (c : UInt8) (r : List UInt8) (hl : s.data.toList = c :: r) (g1 : c ≠ 42) (g2 : c ≠ 63) (g3 : c ≠ 91) (g4 : c ≠ 92) (w : World) :
    Calls Try.prog 31 #[.string s] w (FirstPost s w) := by
  have H := Lib.hid (prefix_any s ⟨#[42, 42]⟩)
  rw [not_every hl (fun h => g1 h.1)] at H
  obtain ⟨h0, hc, hrd, hrl⟩ := data_tail hl
  have hix := index_0 s h0
  rw [hc] at hix
  have HE := Lib.hid (elemL_lit hl g1 g2 g3 g4)
  have HL := Lib.hid (And.intro (show 1 + r.length = s.size by omega) hrd)
  have HK9 := Lib.hid (el_lit c)
  obtain ⟨k0, k1, k2, k3, hk, _, hk3⟩ := setC_el (upd (fun _ => false) c.toNat true) [Value.bool false, Value.bool true, Value.int .u8 c.toNat]
  have E := Lib.hid (fun w => literal_any c w)
  rw [hk3] at E
  rw [hk] at HK9
  have h1 : (0 : Int) < (s.size : Int) := by omega
  have e1 : c.toNat = 42 ↔ c = 42 := u8_lit (by omega)
  have e2 : c.toNat = 63 ↔ c = 63 := u8_lit (by omega)
  have e3 : c.toNat = 91 ↔ c = 91 := u8_lit (by omega)
  have e4 : c.toNat = 92 ↔ c = 92 := u8_lit (by omega)
  have hc9 := c.toNat_lt
  obtain ⟨n, hn⟩ : ∃ n, n = c.toNat := ⟨_, rfl⟩
  rw [← hn] at hix E HK9 e1 e2 e3 e4 hc9
  have x1 : ((n : Int) == 42) = false := by rw [beq_eq_false_iff_ne]; intro e; exact g1 (e1.1 (by omega))
  have x2 : ((n : Int) == 63) = false := by rw [beq_eq_false_iff_ne]; intro e; exact g2 (e2.1 (by omega))
  have x3 : ((n : Int) == 91) = false := by rw [beq_eq_false_iff_ne]; intro e; exact g3 (e3.1 (by omega))
  have x4 : ((n : Int) == 92) = false := by rw [beq_eq_false_iff_ne]; intro e; exact g4 (e4.1 (by omega))
  clear hl hc hrd hrl hk hk3 h0 e1 e2 e3 e4 hn g1 g2 g3 g4
  go_enter Try.func31, Try.ntmps31
  go_wp2_with fail
  go_fit (H.out _)
  rintro e w1 ⟨rfl, rfl⟩
  go_wp2_with fail
  go_fit (E.out _)
  rintro e w2 ⟨rfl, hb⟩
  have BL := Lib.hid ((BlkAt.new w 50 #[.int .u64 0, .int .u64 0, .int .u64 0, .int .u64 0, .bool false, .bool false, .int .u8 0]).below hb)
  have B := Lib.hid (((Below.refl w.heap.size w).alloc (Nat.le_refl _) (Obj.cells #[.int .u64 0, .int .u64 0, .int .u64 0, .int .u64 0, .bool false, .bool false, .int .u8 0] 50)).trans (hb.mono (by simp)))
  have c0 := BL.out.cell (k := 0) rfl
  have f0 := BL.out.frozen 0
  have c1 := BL.out.cell (k := 1) rfl
  have f1 := BL.out.frozen 1
  have c2 := BL.out.cell (k := 2) rfl
  have f2 := BL.out.frozen 2
  have c3 := BL.out.cell (k := 3) rfl
  have f3 := BL.out.frozen 3
  have c4 := BL.out.cell (k := 4) rfl
  have f4 := BL.out.frozen 4
  have c5 := BL.out.cell (k := 5) rfl
  have f5 := BL.out.frozen 5
  have c6 := BL.out.cell (k := 6) rfl
  have f6 := BL.out.frozen 6
  clear hb
  go_wp2_with fail
  refine bodyPost_ret (v := .tuple #[.agg #[.int .u64 (k0 : Nat), .int .u64 (k1 : Nat), .int .u64 (k2 : Nat), .int .u64 (k3 : Nat), .bool false, .bool true, .int .u8 n], .int .i64 1, .bool true]) (by simp [results, Try.results31, go_sem, c0, c1, c2, c3, c4, c5, c6]) rfl ⟨(((((((B.out.setCell (p := ⟨w.heap.size, 0, none⟩) (Nat.le_refl _) _).setCell (p := ⟨w.heap.size, 1, none⟩) (Nat.le_refl _) _).setCell (p := ⟨w.heap.size, 2, none⟩) (Nat.le_refl _) _).setCell (p := ⟨w.heap.size, 3, none⟩) (Nat.le_refl _) _).setCell (p := ⟨w.heap.size, 4, none⟩) (Nat.le_refl _) _).setCell (p := ⟨w.heap.size, 5, none⟩) (Nat.le_refl _) _).setCell (p := ⟨w.heap.size, 6, none⟩) (Nat.le_refl _) _), ?_⟩
  rw [HE.out]
  exact ⟨1, HL.out.1, HL.out.2, by omega, by rw [HK9.out]; rfl⟩
set_option maxHeartbeats 2000000 in
theorem first_esc (s : ByteArray) (c : UInt8) (r : List UInt8) (hl : s.data.toList = 92 :: c :: r) (w : World) :
    Calls Try.prog 31 #[.string s] w (FirstPost s w) := by
  have H := Lib.hid (prefix_any s ⟨#[42, 42]⟩)
  rw [not_every hl (fun h => absurd h.1 (by decide))] at H
  obtain ⟨h0, hc, hrd, hrl⟩ := data_tail hl
  have hix := index_0 s h0
  rw [hc] at hix
  have hs1 : 1 < s.size := by simp at hrl; omega
  have hix1 := index_1 s hs1
  have hd1 := drop_cons s 1 hs1
  rw [← hrd] at hd1
  rw [← (List.cons.inj hd1).1] at hix1
  have HE := Lib.hid (show elemL s.data.toList = some (⟨5, [(c, c)]⟩, r) by rw [elemL_esc hl]; rfl)
  have HL := Lib.hid (And.intro (show 2 + r.length = s.size by simp at hrl; omega) (show r = s.data.toList.drop 2 by rw [hl]; rfl))
  have HK9 := Lib.hid (el_lit c)
  obtain ⟨k0, k1, k2, k3, hk, _, hk3⟩ := setC_el (upd (fun _ => false) c.toNat true) [Value.bool false, Value.bool true, Value.int .u8 c.toNat]
  have E := Lib.hid (fun w => literal_any c w)
  rw [hk3] at E
  rw [hk] at HK9
  have h1 : (1 : Int) < (s.size : Int) := by omega
  have h2 : ((s.size : Int) == 1) = false := by simp; omega
  have hc9 := c.toNat_lt
  obtain ⟨n, hn⟩ : ∃ n, n = c.toNat := ⟨_, rfl⟩
  rw [← hn] at hix1 E HK9 hc9
  clear hl hc hrd hrl hk hk3 h0 hn hd1 hs1
  go_enter Try.func31, Try.ntmps31
  go_wp2_with fail
  go_fit (H.out _)
  rintro e w1 ⟨rfl, rfl⟩
  go_wp2_with fail
  go_fit (E.out _)
  rintro e w2 ⟨rfl, hb⟩
  have BL := Lib.hid ((BlkAt.new w 50 #[.int .u64 0, .int .u64 0, .int .u64 0, .int .u64 0, .bool false, .bool false, .int .u8 0]).below hb)
  have B := Lib.hid (((Below.refl w.heap.size w).alloc (Nat.le_refl _) (Obj.cells #[.int .u64 0, .int .u64 0, .int .u64 0, .int .u64 0, .bool false, .bool false, .int .u8 0] 50)).trans (hb.mono (by simp)))
  have c0 := BL.out.cell (k := 0) rfl
  have f0 := BL.out.frozen 0
  have c1 := BL.out.cell (k := 1) rfl
  have f1 := BL.out.frozen 1
  have c2 := BL.out.cell (k := 2) rfl
  have f2 := BL.out.frozen 2
  have c3 := BL.out.cell (k := 3) rfl
  have f3 := BL.out.frozen 3
  have c4 := BL.out.cell (k := 4) rfl
  have f4 := BL.out.frozen 4
  have c5 := BL.out.cell (k := 5) rfl
  have f5 := BL.out.frozen 5
  have c6 := BL.out.cell (k := 6) rfl
  have f6 := BL.out.frozen 6
  clear hb
  go_wp2_with fail
  refine bodyPost_ret (v := .tuple #[.agg #[.int .u64 (k0 : Nat), .int .u64 (k1 : Nat), .int .u64 (k2 : Nat), .int .u64 (k3 : Nat), .bool false, .bool true, .int .u8 n], .int .i64 2, .bool true]) (by simp [results, Try.results31, go_sem, c0, c1, c2, c3, c4, c5, c6]) rfl ⟨(((((((B.out.setCell (p := ⟨w.heap.size, 0, none⟩) (Nat.le_refl _) _).setCell (p := ⟨w.heap.size, 1, none⟩) (Nat.le_refl _) _).setCell (p := ⟨w.heap.size, 2, none⟩) (Nat.le_refl _) _).setCell (p := ⟨w.heap.size, 3, none⟩) (Nat.le_refl _) _).setCell (p := ⟨w.heap.size, 4, none⟩) (Nat.le_refl _) _).setCell (p := ⟨w.heap.size, 5, none⟩) (Nat.le_refl _) _).setCell (p := ⟨w.heap.size, 6, none⟩) (Nat.le_refl _) _), ?_⟩
  rw [HE.out]
  exact ⟨2, HL.out.1, HL.out.2, by omega, by rw [HK9.out]; rfl⟩
set_option maxHeartbeats 2000000 in
theorem first_slash (s : ByteArray) (hl : s.data.toList = [92]) (w : World) :
    Calls Try.prog 31 #[.string s] w (FirstPost s w) := by
  have H := Lib.hid (prefix_any s ⟨#[42, 42]⟩)
  rw [not_every hl (fun h => absurd h.1 (by decide))] at H
  obtain ⟨h0, hc, hrd, hrl⟩ := data_tail hl
  have hix := index_0 s h0
  rw [hc] at hix
  have HE := Lib.hid (show elemL s.data.toList = none by rw [elemL_esc hl]; rfl)
  have h1 : (s.size : Int) = 1 := by simp at hrl; omega
  have hb := Below.refl (w.alloc (Obj.cells #[.int .u64 0, .int .u64 0, .int .u64 0, .int .u64 0, .bool false, .bool false, .int .u8 0] 50)).heap.size (w.alloc (Obj.cells #[.int .u64 0, .int .u64 0, .int .u64 0, .int .u64 0, .bool false, .bool false, .int .u8 0] 50))
  clear hl hc hrd hrl h0
  go_enter Try.func31, Try.ntmps31
  go_wp2_with fail
  go_fit (H.out _)
  rintro e w1 ⟨rfl, rfl⟩
  have BL := Lib.hid ((BlkAt.new w 50 #[.int .u64 0, .int .u64 0, .int .u64 0, .int .u64 0, .bool false, .bool false, .int .u8 0]).below hb)
  have B := Lib.hid (((Below.refl w.heap.size w).alloc (Nat.le_refl _) (Obj.cells #[.int .u64 0, .int .u64 0, .int .u64 0, .int .u64 0, .bool false, .bool false, .int .u8 0] 50)).trans (hb.mono (by simp)))
  have c0 := BL.out.cell (k := 0) rfl
  have f0 := BL.out.frozen 0
  have c1 := BL.out.cell (k := 1) rfl
  have f1 := BL.out.frozen 1
  have c2 := BL.out.cell (k := 2) rfl
  have f2 := BL.out.frozen 2
  have c3 := BL.out.cell (k := 3) rfl
  have f3 := BL.out.frozen 3
  have c4 := BL.out.cell (k := 4) rfl
  have f4 := BL.out.frozen 4
  have c5 := BL.out.cell (k := 5) rfl
  have f5 := BL.out.frozen 5
  have c6 := BL.out.cell (k := 6) rfl
  have f6 := BL.out.frozen 6
  clear hb
  go_wp2_with fail
  refine bodyPost_ret (v := .tuple #[.agg #[.int .u64 0, .int .u64 0, .int .u64 0, .int .u64 0, .bool false, .bool false, .int .u8 0], .int .i64 0, .bool false]) (by simp [results, Try.results31, go_sem, c0, c1, c2, c3, c4, c5, c6]) rfl ⟨B.out, ?_⟩
  rw [HE.out]
set_option maxHeartbeats 2000000 in
theorem first_class (s : ByteArray) (hs : s.size ≤ 1099511627776) (r : List UInt8) (hl : s.data.toList = 91 :: r) (w : World) :
    Calls Try.prog 31 #[.string s] w (FirstPost s w) := by
  have H := Lib.hid (prefix_any s ⟨#[42, 42]⟩)
  rw [not_every hl (fun h => absurd h.1 (by decide))] at H
  obtain ⟨h0, hc, hrd, hrl⟩ := data_tail hl
  have hix := index_0 s h0
  rw [hc] at hix
  have h1 : (0 : Int) < (s.size : Int) := by omega
  have C := Lib.hid (fun w => class_any s hs h0 w)
  have HCP := Lib.hid (fun (w : World) (e : Ending) (w' : World) (h : PClassPost s w.heap.size w e w') => show Below w.heap.size w w' ∧ ((elemL s.data.toList = none ∧ e = .returned (.tuple #[.agg #[.int .u64 0, .int .u64 0, .int .u64 0, .int .u64 0, .bool false, .bool false, .int .u8 0], .int .i64 0, .bool false])) ∨ ∃ (its : List (UInt8 × UInt8)) (r : List UInt8) (n k0 k1 k2 k3 : Nat), elemL s.data.toList = some (⟨4, its⟩, r) ∧ n + r.length = s.size ∧ r = s.data.toList.drop n ∧ 0 < n ∧ elC ⟨4, its⟩ = [.int .u64 (k0 : Nat), .int .u64 (k1 : Nat), .int .u64 (k2 : Nat), .int .u64 (k3 : Nat), .bool false, .bool false, .int .u8 0] ∧ e = .returned (.tuple #[.agg #[.int .u64 (k0 : Nat), .int .u64 (k1 : Nat), .int .u64 (k2 : Nat), .int .u64 (k3 : Nat), .bool false, .bool false, .int .u8 0], .int .i64 n, .bool true])) from by
    obtain ⟨hb, h⟩ := h
    refine ⟨hb, ?_⟩
    rw [elemL_cls hl]
    rw [hrd]
    cases hq : classL (s.data.toList.drop 1) with
    | none =>
      rw [hq] at h
      exact .inl ⟨rfl, h⟩
    | some q =>
      obtain ⟨its, r2⟩ := q
      rw [hq] at h
      simp only at h ⊢
      by_cases hi : its = []
      · rw [if_pos hi] at h ⊢
        exact .inl ⟨rfl, h⟩
      · rw [if_neg hi] at h ⊢
        obtain ⟨n, n1, n2, n3, rfl⟩ := h
        obtain ⟨k0, k1, k2, k3, hk, _, hk3⟩ := setC_el (accN ⟨4, its⟩) [Value.bool false, Value.bool false, Value.int .u8 0]
        have e1 : elC ⟨4, its⟩ = [.int .u64 (k0 : Nat), .int .u64 (k1 : Nat), .int .u64 (k2 : Nat), .int .u64 (k3 : Nat), .bool false, .bool false, .int .u8 0] := by unfold elC; rw [hk]; rfl
        exact .inr ⟨its, r2, n, k0, k1, k2, k3, rfl, n1, n2, n3, e1, by rw [e1]⟩)
  clear hl hc hrd hrl h0 hs
  go_enter Try.func31, Try.ntmps31
  go_wp2_with fail
  go_fit (H.out _)
  rintro e w1 ⟨rfl, rfl⟩
  go_wp2_with fail
  go_fit (C.out _)
  intro e w2 h
  obtain ⟨hb, h⟩ := HCP.out _ _ _ h
  rcases h with ⟨he, rfl⟩ | ⟨its, r, n, k0, k1, k2, k3, he, n1, n2, n3, ek, rfl⟩
  · have HE := Lib.hid he
    clear he
    have BL := Lib.hid ((BlkAt.new w 50 #[.int .u64 0, .int .u64 0, .int .u64 0, .int .u64 0, .bool false, .bool false, .int .u8 0]).below hb)
    have B := Lib.hid (((Below.refl w.heap.size w).alloc (Nat.le_refl _) (Obj.cells #[.int .u64 0, .int .u64 0, .int .u64 0, .int .u64 0, .bool false, .bool false, .int .u8 0] 50)).trans (hb.mono (by simp)))
    have c0 := BL.out.cell (k := 0) rfl
    have f0 := BL.out.frozen 0
    have c1 := BL.out.cell (k := 1) rfl
    have f1 := BL.out.frozen 1
    have c2 := BL.out.cell (k := 2) rfl
    have f2 := BL.out.frozen 2
    have c3 := BL.out.cell (k := 3) rfl
    have f3 := BL.out.frozen 3
    have c4 := BL.out.cell (k := 4) rfl
    have f4 := BL.out.frozen 4
    have c5 := BL.out.cell (k := 5) rfl
    have f5 := BL.out.frozen 5
    have c6 := BL.out.cell (k := 6) rfl
    have f6 := BL.out.frozen 6
    clear hb
    go_wp2_with fail
    refine bodyPost_ret (v := .tuple #[.agg #[.int .u64 0, .int .u64 0, .int .u64 0, .int .u64 0, .bool false, .bool false, .int .u8 0], .int .i64 0, .bool false]) (by simp [results, Try.results31, go_sem, c0, c1, c2, c3, c4, c5, c6]) rfl ⟨(((((((B.out.setCell (p := ⟨w.heap.size, 0, none⟩) (Nat.le_refl _) _).setCell (p := ⟨w.heap.size, 1, none⟩) (Nat.le_refl _) _).setCell (p := ⟨w.heap.size, 2, none⟩) (Nat.le_refl _) _).setCell (p := ⟨w.heap.size, 3, none⟩) (Nat.le_refl _) _).setCell (p := ⟨w.heap.size, 4, none⟩) (Nat.le_refl _) _).setCell (p := ⟨w.heap.size, 5, none⟩) (Nat.le_refl _) _).setCell (p := ⟨w.heap.size, 6, none⟩) (Nat.le_refl _) _), ?_⟩
    rw [HE.out]
  · have HE := Lib.hid (And.intro he (And.intro n1 (And.intro n2 (And.intro n3 ek))))
    clear he n1 n2 n3 ek
    have BL := Lib.hid ((BlkAt.new w 50 #[.int .u64 0, .int .u64 0, .int .u64 0, .int .u64 0, .bool false, .bool false, .int .u8 0]).below hb)
    have B := Lib.hid (((Below.refl w.heap.size w).alloc (Nat.le_refl _) (Obj.cells #[.int .u64 0, .int .u64 0, .int .u64 0, .int .u64 0, .bool false, .bool false, .int .u8 0] 50)).trans (hb.mono (by simp)))
    have c0 := BL.out.cell (k := 0) rfl
    have f0 := BL.out.frozen 0
    have c1 := BL.out.cell (k := 1) rfl
    have f1 := BL.out.frozen 1
    have c2 := BL.out.cell (k := 2) rfl
    have f2 := BL.out.frozen 2
    have c3 := BL.out.cell (k := 3) rfl
    have f3 := BL.out.frozen 3
    have c4 := BL.out.cell (k := 4) rfl
    have f4 := BL.out.frozen 4
    have c5 := BL.out.cell (k := 5) rfl
    have f5 := BL.out.frozen 5
    have c6 := BL.out.cell (k := 6) rfl
    have f6 := BL.out.frozen 6
    clear hb
    go_wp2_with fail
    refine bodyPost_ret (v := .tuple #[.agg #[.int .u64 (k0 : Nat), .int .u64 (k1 : Nat), .int .u64 (k2 : Nat), .int .u64 (k3 : Nat), .bool false, .bool false, .int .u8 0], .int .i64 n, .bool true]) (by simp [results, Try.results31, go_sem, c0, c1, c2, c3, c4, c5, c6]) rfl ⟨(((((((B.out.setCell (p := ⟨w.heap.size, 0, none⟩) (Nat.le_refl _) _).setCell (p := ⟨w.heap.size, 1, none⟩) (Nat.le_refl _) _).setCell (p := ⟨w.heap.size, 2, none⟩) (Nat.le_refl _) _).setCell (p := ⟨w.heap.size, 3, none⟩) (Nat.le_refl _) _).setCell (p := ⟨w.heap.size, 4, none⟩) (Nat.le_refl _) _).setCell (p := ⟨w.heap.size, 5, none⟩) (Nat.le_refl _) _).setCell (p := ⟨w.heap.size, 6, none⟩) (Nat.le_refl _) _), ?_⟩
    rw [HE.out.1]
    exact ⟨n, HE.out.2.1, HE.out.2.2.1, HE.out.2.2.2.1, by rw [HE.out.2.2.2.2]⟩
theorem first_any (s : ByteArray) (hs : s.size ≤ 1099511627776) (h0 : s.data.toList ≠ []) (w : World) :
    Calls Try.prog 31 #[.string s] w (FirstPost s w) := by
  obtain ⟨c, r, hl⟩ : ∃ c r, s.data.toList = c :: r := by
    cases h : s.data.toList with
    | nil => exact absurd h h0
    | cons c r => exact ⟨c, r, rfl⟩
  by_cases c1 : c = 42
  · subst c1
    by_cases c2 : r.head? = some 42
    · obtain ⟨r2, rfl⟩ : ∃ r2, r = 42 :: r2 := by
        cases r with
        | nil => cases c2
        | cons d r => simp at c2; exact ⟨r, by rw [c2]⟩
      exact first_every s r2 hl w
    · exact first_star s r hl c2 w
  by_cases c2 : c = 63
  · subst c2; exact first_one s r hl w
  by_cases c3 : c = 91
  · subst c3; exact first_class s hs r hl w
  by_cases c4 : c = 92
  · subst c4
    cases r with
    | nil => exact first_slash s hl w
    | cons d r => exact first_esc s d r hl w
  exact first_lit s c r hl c1 c2 c3 c4 w
end Go.Proofs.Ytaalfnfikjmomaa
