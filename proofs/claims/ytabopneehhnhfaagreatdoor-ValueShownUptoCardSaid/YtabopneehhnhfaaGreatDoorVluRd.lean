/- Contract of the document's literal (value). -/
import Derived.Test.YtabopneehhnhfaaGreatDoorVluRa
import Derived.Test.YtabopneehhnhfaaGreatDoorValM
namespace Go.Proofs.YtabopneehhnhfaaGreatDoor
open Go.RowKit Go.Lib

theorem litV_mk' (m : Nat) : ∃ f, litV m = hdL f ∧ ∀ m', m = m' + 1 → f = litV m' := by
  cases m with
  | zero => exact ⟨fun _ => [], rfl, fun _ h => by omega⟩
  | succ m => exact ⟨litV m, rfl, fun m' h => by rw [show m = m' by omega]⟩
/-- literal at values of at most m levels below. -/
def LitP (m : Nat) : Prop := ∀ (q : Nat) (V : Value) (x : Vl) (w : World), errV q x = 0 → IsV m w V x → (litV m x).length ≤ 140737488355328 →
  Calls Tryz.prog 42 #[V] w fun e w' => e = .returned (.string ⟨(litV m x).toArray⟩) ∧ Below w.heap.size w w'
set_option maxHeartbeats 8000000 in
set_option maxRecDepth 100000 in
theorem lit_list (m : Nat) (IH : ∀ m', m = m' + 1 → LitP m') (q : Nat) (t : Bool) (i : Int) (s : ByteArray) (l : List Vl) (ks : List (List UInt8)) (av kv : Option Addr) (c kc : Nat) (f : Vl → List UInt8) (hf : ∀ m', m = m' + 1 → f = litV m')
    (w : World) (hq : ∀ y, y ∈ l → errV q y = 0)  (hl4 : l.length ≤ 1024) (hk9 : ∀ x, x ∈ ks → x.length ≤ 140737488351232) (hs : ReadsStr w kv ks) (hl : ReadsV m w av l) (hlim : (itemsL f false l ks l.length).length + 2 ≤ 140737488355328) :
    Calls Tryz.prog 42 #[.agg #[.int .i64 4, .bool t, .int .i64 i, .string s, .slice av l.length c, .slice kv ks.length kc]] w fun e w' => e = .returned (.string ⟨(91 :: (itemsL f false l ks l.length ++ [93])).toArray⟩) ∧ Below w.heap.size w w' := by
  have HS := Lib.hid hs
  have HL := Lib.hid hl
  have HI := Lib.hid IH
  have HF := Lib.hid hf
  have HQ := Lib.hid hq
  have HK9 := Lib.hid hk9
  have C0 := Lib.hid (CellsAt.new w 25 #[.int .i64 4, .bool t, .int .i64 i, .string s, .slice av l.length c, .slice kv ks.length kc])
  have B0 := Lib.hid ((Below.refl w.heap.size w).alloc (Nat.le_refl _) (.cells #[.int .i64 4, .bool t, .int .i64 i, .string s, .slice av l.length c, .slice kv ks.length kc] 25))
  have a4 : (w.alloc (.cells #[.int .i64 4, .bool t, .int .i64 i, .string s, .slice av l.length c, .slice kv ks.length kc] 25)).cell? ⟨w.heap.size, 4, none⟩ = some (.slice av l.length c) := C0.out.cell rfl
  
  clear hs hl IH hf hq hk9 
  go_enter Tryz.func42, Tryz.ntmps42
  go_wp2_with fail
  clear a4
  go_loopw [3, 4] (fun s3 s4 wr => ∃ (j : Nat) (o : ByteArray), j ≤ l.length ∧ s4 = .int .i64 (j : Int) ∧ s3 = .string o ∧ Hid (o = ⟨(itemsL f false l ks j).toArray⟩) ∧ Hid (CellsAt wr w.heap.size 25 #[.int .i64 4, .bool t, .int .i64 i, .string s, .slice av l.length c, .slice kv ks.length kc]) ∧ Hid (Below w.heap.size w wr)) (fun _ s4 _ => l.length - (RowKit.intOf s4).toNat)
  case atStart => exact ⟨0, _, by omega, rfl, rfl, Lib.hid rfl, C0, B0⟩
  case round =>
    obtain ⟨j, o, hj, rfl, rfl, HO, C, HB⟩ := hrel
    clear C0 B0
    have a0 : wr.cell? ⟨w.heap.size, 0, none⟩ = some (.int .i64 4) := C.out.cell rfl
    have a4 : wr.cell? ⟨w.heap.size, 4, none⟩ = some (.slice av l.length c) := C.out.cell rfl
    have a5 : wr.cell? ⟨w.heap.size, 5, none⟩ = some (.slice kv ks.length kc) := C.out.cell rfl
    by_cases hlt : j < l.length
    · cases m with
      | zero => exact absurd hlt (by have h : l = [] := HL.out; rw [h]; simp)
      | succ m =>
      obtain ⟨b, off, k1, t1, i1, s1, l1, ks1, av1, c1, kv1, kc1, h0, rfl, h2, e0, e1, e2, e3, e4, e5, q0, q1, q2, q3, q4, q5, q6, q7, q8, q9, hs1, hl1⟩ := HL.out j hlt
      have hx : l[j] = .mk k1 t1 i1 s1 l1 ks1 := (List.getElem?_eq_some_iff.1 h0).2
      have p0 := (HB.out.cell (p := ⟨b, _, none⟩) h2).trans e0
      have p1 := (HB.out.cell (p := ⟨b, _, none⟩) h2).trans e1
      have p2 := (HB.out.cell (p := ⟨b, _, none⟩) h2).trans e2
      have p3 := (HB.out.cell (p := ⟨b, _, none⟩) h2).trans e3
      have p4 := (HB.out.cell (p := ⟨b, _, none⟩) h2).trans e4
      have p5 := (HB.out.cell (p := ⟨b, _, none⟩) h2).trans e5
      have hle := itemsL_le f false l ks (j + 1) (l.length - (j + 1))
      rw [show j + 1 + (l.length - (j + 1)) = l.length by omega] at hle
      have hsu := itemsL_succ f false l ks j
      have hlsu := congrArg List.length hsu
      rw [List.length_append] at hlsu
      have hol : o.size = (itemsL f false l ks j).length := by rw [HO.out]; rfl
      have F := Lib.hid (fun w' (hb : Below w.heap.size w w') (hh : (f (.mk k1 t1 i1 s1 l1 ks1)).length ≤ 140737488355328) => by
        have h := HI.out m rfl q (.agg #[.int .i64 k1, .bool t1, .int .i64 i1, .string s1, .slice av1 l1.length c1, .slice kv1 ks1.length kc1]) (.mk k1 t1 i1 s1 l1 ks1) w' (by rw [← hx]; exact HQ.out _ (List.getElem_mem hlt)) (IsV.below ⟨k1, t1, i1, s1, l1, ks1, av1, c1, kv1, kc1, rfl, rfl, q0, q1, q2, q3, q4, q5, q6, q7, q8, q9, hs1, hl1⟩ hb)
        rw [← HF.out m rfl] at h
        exact h hh)
      obtain ⟨X, hX⟩ : ∃ X : ByteArray, X = ⟨(f (.mk k1 t1 i1 s1 l1 ks1)).toArray⟩ := ⟨_, rfl⟩
      rw [← hX] at F
      have hXl : X.size = (f (.mk k1 t1 i1 s1 l1 ks1)).length := by rw [hX]; rfl
      have hjI : (j : Int) < (l.length : Int) := by omega
      have hj00 : (0 : Int) ≤ (j : Int) := by omega
      have c44 : (⟨#[44, 32]⟩ : ByteArray).size = 2 := rfl
      have c58 : (⟨#[58, 32]⟩ : ByteArray).size = 2 := rfl
      clear e0 e1 e2 e3 e4 e5 q0 q1 q2 q3 q4 q5 q6 q7 q8 q9 hs1 hl1 h2 h0
      by_cases hj0 : j = 0
      · have hel : eltL f false l ks j = f (.mk k1 t1 i1 s1 l1 ks1) := by
          unfold eltL
          rw [if_pos hj0, List.getElem?_eq_getElem hlt, hx]
          simp
        rw [hel] at hsu hlsu
        try simp only [List.length_append, List.length_cons, List.length_nil] at hlsu
        have u1 := fun w => run_string_add_sum (P := Tryz.prog) w (o) X (by omega)
        have HN := Lib.hid (show o ++ X = ⟨(itemsL f false l ks (j + 1)).toArray⟩ by rw [HO.out, hX, app_str, hsu]; try simp only [List.append_assoc])
        have hfl : (f (.mk k1 t1 i1 s1 l1 ks1)).length ≤ 140737488355328 := by omega
        have F2 := Lib.hid (fun w' hb => F.out w' hb hfl)
        have hjp : ¬ 0 < j := by omega
        have HJ := Lib.hid hj0
        clear hel hsu hlsu hle hX hXl hol c44 c58 hfl hx hj0
        go_wp2_with fail
        go_fit (F2.out _ HB.out)
        rintro e w2 ⟨rfl, hb2⟩
        have B2 := Lib.hid (HB.out.trans (hb2.mono HB.out.size))
        have C2 := Lib.hid (C.out.below hb2)
        clear hb2 p0 p1 p2 p3 p4 p5 a0 a4 a5
        go_wp2_with fail
        exact ⟨⟨j + 1, _, by omega, by go_num, rfl, HN, C2, B2⟩, by simp [RowKit.intOf]; omega⟩
      · have hel : eltL f false l ks j = [44, 32] ++ f (.mk k1 t1 i1 s1 l1 ks1) := by
          unfold eltL
          rw [if_neg hj0, List.getElem?_eq_getElem hlt, hx]
          simp
        rw [hel] at hsu hlsu
        try simp only [List.length_append, List.length_cons, List.length_nil] at hlsu
        have u1 := fun w => run_string_add_sum (P := Tryz.prog) w (o) ⟨#[44, 32]⟩ (by omega)
        have z1 : (o ++ ⟨#[44, 32]⟩ : ByteArray).size = o.size + 2 := by rw [ByteArray.size_append, c44]
        have u2 := fun w => run_string_add_sum (P := Tryz.prog) w (o ++ ⟨#[44, 32]⟩) X (by omega)
        have HN := Lib.hid (show o ++ ⟨#[44, 32]⟩ ++ X = ⟨(itemsL f false l ks (j + 1)).toArray⟩ by rw [HO.out, hX, show (⟨#[44, 32]⟩ : ByteArray) = ⟨[44, 32].toArray⟩ from rfl, app_str, app_str, hsu]; try simp only [List.append_assoc])
        have hfl : (f (.mk k1 t1 i1 s1 l1 ks1)).length ≤ 140737488355328 := by omega
        have F2 := Lib.hid (fun w' hb => F.out w' hb hfl)
        have hjp : 0 < j := by omega
        have HJ := Lib.hid hj0
        clear hel hsu hlsu hle hX hXl hol c44 c58 z1 hfl hx hj0
        go_wp2_with fail
        go_fit (F2.out _ HB.out)
        rintro e w2 ⟨rfl, hb2⟩
        have B2 := Lib.hid (HB.out.trans (hb2.mono HB.out.size))
        have C2 := Lib.hid (C.out.below hb2)
        clear hb2 p0 p1 p2 p3 p4 p5 a0 a4 a5
        go_wp2_with fail
        exact ⟨⟨j + 1, _, by omega, by go_num, rfl, HN, C2, B2⟩, by simp [RowKit.intOf]; omega⟩
    · obtain rfl : j = l.length := by omega
      have hjI : ¬ (l.length : Int) < (l.length : Int) := by omega
      have hol : o.size = (itemsL f false l ks l.length).length := by rw [HO.out]; rfl
      have u1 := fun w => run_string_add_sum (P := Tryz.prog) w ⟨#[91]⟩ o (by show 1 + o.size ≤ _; omega)
      have z1 : (⟨#[91]⟩ ++ o : ByteArray).size = 1 + o.size := by rw [ByteArray.size_append]; rfl
      have u2 := fun w => run_string_add_sum (P := Tryz.prog) w (⟨#[91]⟩ ++ o) ⟨#[93]⟩ (by rw [z1]; show 1 + o.size + 1 ≤ _; omega)
      have E := Lib.hid (show (⟨(91 :: (itemsL f false l ks l.length ++ [93])).toArray⟩ : ByteArray) = ⟨#[91]⟩ ++ o ++ ⟨#[93]⟩ by
        rw [HO.out, show (⟨#[91]⟩ : ByteArray) = ⟨[91].toArray⟩ from rfl, show (⟨#[93]⟩ : ByteArray) = ⟨[93].toArray⟩ from rfl, app_str, app_str]
        rfl)
      clear hol z1 hlt
      go_wp2_with fail
      go_ret
      exact ⟨by rw [E.out]; rfl, HB.out⟩
set_option maxHeartbeats 8000000 in
set_option maxRecDepth 100000 in
theorem lit_map (m : Nat) (IH : ∀ m', m = m' + 1 → LitP m') (q : Nat) (t : Bool) (i : Int) (s : ByteArray) (l : List Vl) (ks : List (List UInt8)) (av kv : Option Addr) (c kc : Nat) (f : Vl → List UInt8) (hf : ∀ m', m = m' + 1 → f = litV m')
    (w : World) (hq : ∀ y, y ∈ l → errV q y = 0) (hkl : ks.length = l.length) (hl4 : l.length ≤ 1024) (hk9 : ∀ x, x ∈ ks → x.length ≤ 140737488351232) (hs : ReadsStr w kv ks) (hl : ReadsV m w av l) (hlim : (itemsL f true l ks l.length).length + 2 ≤ 140737488355328) :
    Calls Tryz.prog 42 #[.agg #[.int .i64 5, .bool t, .int .i64 i, .string s, .slice av l.length c, .slice kv ks.length kc]] w fun e w' => e = .returned (.string ⟨(123 :: (itemsL f true l ks l.length ++ [125])).toArray⟩) ∧ Below w.heap.size w w' := by
  have HS := Lib.hid hs
  have HL := Lib.hid hl
  have HI := Lib.hid IH
  have HF := Lib.hid hf
  have HQ := Lib.hid hq
  have HK9 := Lib.hid hk9
  have C0 := Lib.hid (CellsAt.new w 25 #[.int .i64 5, .bool t, .int .i64 i, .string s, .slice av l.length c, .slice kv ks.length kc])
  have B0 := Lib.hid ((Below.refl w.heap.size w).alloc (Nat.le_refl _) (.cells #[.int .i64 5, .bool t, .int .i64 i, .string s, .slice av l.length c, .slice kv ks.length kc] 25))
  have a4 : (w.alloc (.cells #[.int .i64 5, .bool t, .int .i64 i, .string s, .slice av l.length c, .slice kv ks.length kc] 25)).cell? ⟨w.heap.size, 4, none⟩ = some (.slice av l.length c) := C0.out.cell rfl
  have HKLN := Lib.hid hkl
  clear hs hl IH hf hq hk9 hkl
  go_enter Tryz.func42, Tryz.ntmps42
  go_wp2_with fail
  clear a4
  go_loopw [3, 4] (fun s3 s4 wr => ∃ (j : Nat) (o : ByteArray), j ≤ l.length ∧ s4 = .int .i64 (j : Int) ∧ s3 = .string o ∧ Hid (o = ⟨(itemsL f true l ks j).toArray⟩) ∧ Hid (CellsAt wr w.heap.size 25 #[.int .i64 5, .bool t, .int .i64 i, .string s, .slice av l.length c, .slice kv ks.length kc]) ∧ Hid (Below w.heap.size w wr)) (fun _ s4 _ => l.length - (RowKit.intOf s4).toNat)
  case atStart => exact ⟨0, _, by omega, rfl, rfl, Lib.hid rfl, C0, B0⟩
  case round =>
    obtain ⟨j, o, hj, rfl, rfl, HO, C, HB⟩ := hrel
    clear C0 B0
    have a0 : wr.cell? ⟨w.heap.size, 0, none⟩ = some (.int .i64 5) := C.out.cell rfl
    have a4 : wr.cell? ⟨w.heap.size, 4, none⟩ = some (.slice av l.length c) := C.out.cell rfl
    have a5 : wr.cell? ⟨w.heap.size, 5, none⟩ = some (.slice kv ks.length kc) := C.out.cell rfl
    by_cases hlt : j < l.length
    · cases m with
      | zero => exact absurd hlt (by have h : l = [] := HL.out; rw [h]; simp)
      | succ m =>
      obtain ⟨b, off, k1, t1, i1, s1, l1, ks1, av1, c1, kv1, kc1, h0, rfl, h2, e0, e1, e2, e3, e4, e5, q0, q1, q2, q3, q4, q5, q6, q7, q8, q9, hs1, hl1⟩ := HL.out j hlt
      have hx : l[j] = .mk k1 t1 i1 s1 l1 ks1 := (List.getElem?_eq_some_iff.1 h0).2
      have p0 := (HB.out.cell (p := ⟨b, _, none⟩) h2).trans e0
      have p1 := (HB.out.cell (p := ⟨b, _, none⟩) h2).trans e1
      have p2 := (HB.out.cell (p := ⟨b, _, none⟩) h2).trans e2
      have p3 := (HB.out.cell (p := ⟨b, _, none⟩) h2).trans e3
      have p4 := (HB.out.cell (p := ⟨b, _, none⟩) h2).trans e4
      have p5 := (HB.out.cell (p := ⟨b, _, none⟩) h2).trans e5
      have hle := itemsL_le f true l ks (j + 1) (l.length - (j + 1))
      rw [show j + 1 + (l.length - (j + 1)) = l.length by omega] at hle
      have hsu := itemsL_succ f true l ks j
      have hlsu := congrArg List.length hsu
      rw [List.length_append] at hlsu
      have hol : o.size = (itemsL f true l ks j).length := by rw [HO.out]; rfl
      have hjk : j < ks.length := by have := HKLN.out; omega
      obtain ⟨bk, offk, rfl, hk2, ek⟩ := HS.out j hjk
      have pk := (HB.out.cell (p := ⟨bk, _, none⟩) hk2).trans ek
      have hk9 := HK9.out _ (List.getElem_mem hjk)
      have hgd : ks.getD j [] = ks[j] := by rw [List.getD_eq_getElem?_getD, List.getElem?_eq_getElem hjk]; rfl
      have KQ := Lib.hid (fun w => quo_any ⟨ks[j].toArray⟩ hk9 w)
      obtain ⟨Q, hQ⟩ : ∃ Q : ByteArray, Q = ⟨(quoL ks[j]).toArray⟩ := ⟨_, rfl⟩
      rw [show (⟨ks[j].toArray⟩ : ByteArray).data.toList = ks[j] from rfl, ← hQ] at KQ
      have hQl : Q.size = (quoL ks[j]).length := by rw [hQ]; rfl
      obtain ⟨kn, hkn⟩ : ∃ kn : ByteArray, kn = ⟨ks[j].toArray⟩ := ⟨_, rfl⟩
      rw [← hkn] at pk KQ
      clear hkn hk2 ek hk9
      have F := Lib.hid (fun w' (hb : Below w.heap.size w w') (hh : (f (.mk k1 t1 i1 s1 l1 ks1)).length ≤ 140737488355328) => by
        have h := HI.out m rfl q (.agg #[.int .i64 k1, .bool t1, .int .i64 i1, .string s1, .slice av1 l1.length c1, .slice kv1 ks1.length kc1]) (.mk k1 t1 i1 s1 l1 ks1) w' (by rw [← hx]; exact HQ.out _ (List.getElem_mem hlt)) (IsV.below ⟨k1, t1, i1, s1, l1, ks1, av1, c1, kv1, kc1, rfl, rfl, q0, q1, q2, q3, q4, q5, q6, q7, q8, q9, hs1, hl1⟩ hb)
        rw [← HF.out m rfl] at h
        exact h hh)
      obtain ⟨X, hX⟩ : ∃ X : ByteArray, X = ⟨(f (.mk k1 t1 i1 s1 l1 ks1)).toArray⟩ := ⟨_, rfl⟩
      rw [← hX] at F
      have hXl : X.size = (f (.mk k1 t1 i1 s1 l1 ks1)).length := by rw [hX]; rfl
      have hjI : (j : Int) < (l.length : Int) := by omega
      have hj00 : (0 : Int) ≤ (j : Int) := by omega
      have hjkI : (j : Int) < (ks.length : Int) := by omega
      have c44 : (⟨#[44, 32]⟩ : ByteArray).size = 2 := rfl
      have c58 : (⟨#[58, 32]⟩ : ByteArray).size = 2 := rfl
      clear e0 e1 e2 e3 e4 e5 q0 q1 q2 q3 q4 q5 q6 q7 q8 q9 hs1 hl1 h2 h0
      by_cases hj0 : j = 0
      · have hel : eltL f true l ks j = (quoL ks[j] ++ [58, 32]) ++ f (.mk k1 t1 i1 s1 l1 ks1) := by
          unfold eltL
          rw [if_pos hj0, List.getElem?_eq_getElem hlt, hx, hgd]
          simp
        rw [hel] at hsu hlsu
        try simp only [List.length_append, List.length_cons, List.length_nil] at hlsu
        have u1 := fun w => run_string_add_sum (P := Tryz.prog) w (o) Q (by omega)
        have z2 : (o ++ Q : ByteArray).size = (o : ByteArray).size + Q.size := ByteArray.size_append
        have u2 := fun w => run_string_add_sum (P := Tryz.prog) w (o ++ Q) ⟨#[58, 32]⟩ (by omega)
        have z3 : (o ++ Q ++ ⟨#[58, 32]⟩ : ByteArray).size = (o ++ Q : ByteArray).size + 2 := by rw [ByteArray.size_append, c58]
        have u3 := fun w => run_string_add_sum (P := Tryz.prog) w (o ++ Q ++ ⟨#[58, 32]⟩) X (by omega)
        have HN := Lib.hid (show o ++ Q ++ ⟨#[58, 32]⟩ ++ X = ⟨(itemsL f true l ks (j + 1)).toArray⟩ by rw [HO.out, hX, hQ, show (⟨#[58, 32]⟩ : ByteArray) = ⟨[58, 32].toArray⟩ from rfl, app_str, app_str, app_str, hsu]; try simp only [List.append_assoc])
        have hfl : (f (.mk k1 t1 i1 s1 l1 ks1)).length ≤ 140737488355328 := by omega
        have F2 := Lib.hid (fun w' hb => F.out w' hb hfl)
        have hjp : ¬ 0 < j := by omega
        have HJ := Lib.hid hj0
        clear hel hsu hlsu hle hX hXl hol c44 c58 z2 z3 hgd hQ hQl hfl hx hj0
        go_wp2_with fail
        go_fit (KQ.out _)
        rintro e w1 ⟨rfl, hb1⟩
        have B1 := Lib.hid (HB.out.trans (hb1.mono HB.out.size))
        have C1 := Lib.hid (C.out.below hb1)
        have d4 : w1.cell? ⟨w.heap.size, 4, none⟩ = _ := C1.out.cell rfl
        have pb0 : b < wr.heap.size := World.block_lt_of_cell? wr _ p0
        have r0 := (hb1.cell (p := ⟨b, _, none⟩) pb0).trans p0
        have r1 := (hb1.cell (p := ⟨b, _, none⟩) pb0).trans p1
        have r2 := (hb1.cell (p := ⟨b, _, none⟩) pb0).trans p2
        have r3 := (hb1.cell (p := ⟨b, _, none⟩) pb0).trans p3
        have r4 := (hb1.cell (p := ⟨b, _, none⟩) pb0).trans p4
        have r5 := (hb1.cell (p := ⟨b, _, none⟩) pb0).trans p5
        clear hb1 pb0 p0 p1 p2 p3 p4 p5 pk a0 a4 a5
        go_wp2_with fail
        go_fit (F2.out _ B1.out)
        rintro e w2 ⟨rfl, hb2⟩
        have B2 := Lib.hid (B1.out.trans (hb2.mono B1.out.size))
        have C2 := Lib.hid (C1.out.below hb2)
        clear hb2 r0 r1 r2 r3 r4 r5 d4
        go_wp2_with fail
        exact ⟨⟨j + 1, _, by omega, by go_num, rfl, HN, C2, B2⟩, by simp [RowKit.intOf]; omega⟩
      · have hel : eltL f true l ks j = [44, 32] ++ ((quoL ks[j] ++ [58, 32]) ++ f (.mk k1 t1 i1 s1 l1 ks1)) := by
          unfold eltL
          rw [if_neg hj0, List.getElem?_eq_getElem hlt, hx, hgd]
          simp
        rw [hel] at hsu hlsu
        try simp only [List.length_append, List.length_cons, List.length_nil] at hlsu
        have u1 := fun w => run_string_add_sum (P := Tryz.prog) w (o) ⟨#[44, 32]⟩ (by omega)
        have z1 : (o ++ ⟨#[44, 32]⟩ : ByteArray).size = o.size + 2 := by rw [ByteArray.size_append, c44]
        have u2 := fun w => run_string_add_sum (P := Tryz.prog) w (o ++ ⟨#[44, 32]⟩) Q (by omega)
        have z2 : (o ++ ⟨#[44, 32]⟩ ++ Q : ByteArray).size = (o ++ ⟨#[44, 32]⟩ : ByteArray).size + Q.size := ByteArray.size_append
        have u3 := fun w => run_string_add_sum (P := Tryz.prog) w (o ++ ⟨#[44, 32]⟩ ++ Q) ⟨#[58, 32]⟩ (by omega)
        have z3 : (o ++ ⟨#[44, 32]⟩ ++ Q ++ ⟨#[58, 32]⟩ : ByteArray).size = (o ++ ⟨#[44, 32]⟩ ++ Q : ByteArray).size + 2 := by rw [ByteArray.size_append, c58]
        have u4 := fun w => run_string_add_sum (P := Tryz.prog) w (o ++ ⟨#[44, 32]⟩ ++ Q ++ ⟨#[58, 32]⟩) X (by omega)
        have HN := Lib.hid (show o ++ ⟨#[44, 32]⟩ ++ Q ++ ⟨#[58, 32]⟩ ++ X = ⟨(itemsL f true l ks (j + 1)).toArray⟩ by rw [HO.out, hX, hQ, show (⟨#[44, 32]⟩ : ByteArray) = ⟨[44, 32].toArray⟩ from rfl, show (⟨#[58, 32]⟩ : ByteArray) = ⟨[58, 32].toArray⟩ from rfl, app_str, app_str, app_str, app_str, hsu]; try simp only [List.append_assoc])
        have hfl : (f (.mk k1 t1 i1 s1 l1 ks1)).length ≤ 140737488355328 := by omega
        have F2 := Lib.hid (fun w' hb => F.out w' hb hfl)
        have hjp : 0 < j := by omega
        have HJ := Lib.hid hj0
        clear hel hsu hlsu hle hX hXl hol c44 c58 z1 z2 z3 hgd hQ hQl hfl hx hj0
        go_wp2_with fail
        go_fit (KQ.out _)
        rintro e w1 ⟨rfl, hb1⟩
        have B1 := Lib.hid (HB.out.trans (hb1.mono HB.out.size))
        have C1 := Lib.hid (C.out.below hb1)
        have d4 : w1.cell? ⟨w.heap.size, 4, none⟩ = _ := C1.out.cell rfl
        have pb0 : b < wr.heap.size := World.block_lt_of_cell? wr _ p0
        have r0 := (hb1.cell (p := ⟨b, _, none⟩) pb0).trans p0
        have r1 := (hb1.cell (p := ⟨b, _, none⟩) pb0).trans p1
        have r2 := (hb1.cell (p := ⟨b, _, none⟩) pb0).trans p2
        have r3 := (hb1.cell (p := ⟨b, _, none⟩) pb0).trans p3
        have r4 := (hb1.cell (p := ⟨b, _, none⟩) pb0).trans p4
        have r5 := (hb1.cell (p := ⟨b, _, none⟩) pb0).trans p5
        clear hb1 pb0 p0 p1 p2 p3 p4 p5 pk a0 a4 a5
        go_wp2_with fail
        go_fit (F2.out _ B1.out)
        rintro e w2 ⟨rfl, hb2⟩
        have B2 := Lib.hid (B1.out.trans (hb2.mono B1.out.size))
        have C2 := Lib.hid (C1.out.below hb2)
        clear hb2 r0 r1 r2 r3 r4 r5 d4
        go_wp2_with fail
        exact ⟨⟨j + 1, _, by omega, by go_num, rfl, HN, C2, B2⟩, by simp [RowKit.intOf]; omega⟩
    · obtain rfl : j = l.length := by omega
      have hjI : ¬ (l.length : Int) < (l.length : Int) := by omega
      have hol : o.size = (itemsL f true l ks l.length).length := by rw [HO.out]; rfl
      have u1 := fun w => run_string_add_sum (P := Tryz.prog) w ⟨#[123]⟩ o (by show 1 + o.size ≤ _; omega)
      have z1 : (⟨#[123]⟩ ++ o : ByteArray).size = 1 + o.size := by rw [ByteArray.size_append]; rfl
      have u2 := fun w => run_string_add_sum (P := Tryz.prog) w (⟨#[123]⟩ ++ o) ⟨#[125]⟩ (by rw [z1]; show 1 + o.size + 1 ≤ _; omega)
      have E := Lib.hid (show (⟨(123 :: (itemsL f true l ks l.length ++ [125])).toArray⟩ : ByteArray) = ⟨#[123]⟩ ++ o ++ ⟨#[125]⟩ by
        rw [HO.out, show (⟨#[123]⟩ : ByteArray) = ⟨[123].toArray⟩ from rfl, show (⟨#[125]⟩ : ByteArray) = ⟨[125].toArray⟩ from rfl, app_str, app_str]
        rfl)
      clear hol z1 hlt
      go_wp2_with fail
      go_ret
      exact ⟨by rw [E.out]; rfl, HB.out⟩
set_option maxHeartbeats 4000000 in
set_option maxRecDepth 100000 in
theorem lit_any : ∀ m, LitP m := by
  intro m
  induction m using Nat.strongRecOn with
  | ind m ih =>
    intro q V x w hq hV hlim
    obtain ⟨k, t, i, s, l, ks, av, c, kv, kc, rfl, rfl, g0, g1, g2, g3, g4, g5, g6, g7, g8, g9, hs, hl⟩ := hV
    obtain ⟨q, rfl⟩ : ∃ q', q = q' + 1 := by
      cases q with
      | zero => rw [errV_zero] at hq; cases hq
      | succ q => exact ⟨q, rfl⟩
    obtain ⟨⟨a1, a2, a3, a4, a5, a6, a7, a8, a9, a10⟩, a11⟩ := err_parts.1 hq
    obtain ⟨f, he, hm⟩ := litV_mk' m
    rw [he] at hlim ⊢
    rcases (show k = 0 ∨ k = 1 ∨ k = 2 ∨ k = 3 ∨ k = 4 ∨ k = 5 by omega) with rfl | rfl | rfl | rfl | rfl | rfl
    · have E := Lib.hid (show hdL f (.mk 0 t i s l ks) = [110, 117, 108, 108] from rfl)
      clear hq he hm ih hs hl hlim a3 a9 a10 a11
      go_enter Tryz.func42, Tryz.ntmps42
      go_wp2_with fail
      go_ret
      exact ⟨by rw [E.out]; rfl, (by repeat (first | exact Below.refl _ _ | refine Below.alloc ?_ (by simp <;> omega) _))⟩
    · have E := Lib.hid (show hdL f (.mk 1 t i s l ks) = if t = true then [116, 114, 117, 101] else [102, 97, 108, 115, 101] from rfl)
      clear hq he hm ih hs hl hlim a3 a9 a10 a11
      cases t
      all_goals
        go_enter Tryz.func42, Tryz.ntmps42
        go_wp2_with fail
        go_ret
        exact ⟨by rw [E.out]; rfl, (by repeat (first | exact Below.refl _ _ | refine Below.alloc ?_ (by simp <;> omega) _))⟩
    · have E := Lib.hid (show hdL f (.mk 2 t i s l ks) = Lib.itoa i from rfl)
      clear hq he hm ih hs hl hlim a3 a9 a10 a11
      have D := Lib.hid (fun w => dec_any i.natAbs i rfl g1.1 g1.2 w)
      have B0 := Lib.hid ((Below.refl w.heap.size w).alloc (Nat.le_refl _) (.cells #[.int .i64 2, .bool t, .int .i64 i, .string s, .slice av l.length c, .slice kv ks.length kc] 25))
      go_enter Tryz.func42, Tryz.ntmps42
      go_wp2_with fail
      go_fit (D.out _)
      rintro e w1 ⟨rfl, hb1⟩
      have B1 := Lib.hid (B0.out.trans (hb1.mono B0.out.size))
      clear hb1
      go_wp2_with fail
      go_ret
      exact ⟨by rw [E.out]; rfl, B1.out⟩
    · have E := Lib.hid (show hdL f (.mk 3 t i s l ks) = quoL s.data.toList from rfl)
      clear hq he hm ih hs hl hlim a3 a9 a10 a11
      have D := Lib.hid (fun w => quo_any s g2 w)
      have B0 := Lib.hid ((Below.refl w.heap.size w).alloc (Nat.le_refl _) (.cells #[.int .i64 3, .bool t, .int .i64 i, .string s, .slice av l.length c, .slice kv ks.length kc] 25))
      go_enter Tryz.func42, Tryz.ntmps42
      go_wp2_with fail
      go_fit (D.out _)
      rintro e w1 ⟨rfl, hb1⟩
      have B1 := Lib.hid (B0.out.trans (hb1.mono B0.out.size))
      clear hb1
      go_wp2_with fail
      go_ret
      exact ⟨by rw [E.out]; rfl, B1.out⟩
    · have E : hdL f (.mk 4 t i s l ks) = 91 :: (itemsL f false l ks l.length ++ [93]) := rfl
      rw [E] at hlim ⊢
      exact lit_list m (fun m' h => ih m' (by omega)) q t i s l ks av kv c kc f hm w a11 a7 g9 hs hl (by simp at hlim; omega)
    · have E : hdL f (.mk 5 t i s l ks) = 123 :: (itemsL f true l ks l.length ++ [125]) := rfl
      rw [E] at hlim ⊢
      exact lit_map m (fun m' h => ih m' (by omega)) q t i s l ks av kv c kc f hm w a11 (by have h := a9 rfl; unfold keysB at h; simp only [Bool.and_eq_true, decide_eq_true_eq] at h; exact h.1.1) a7 g9 hs hl (by simp at hlim; omega)
/-- Show of the document. -/
theorem rShow_any (m : Nat) (V : Value) (x : Vl) (w : World) (hV : IsV m w V x) (hlim : errV 16 x = 0 → (litV m x).length ≤ 140737488355328) :
    Calls Tryz.prog 19 #[V] w fun e w' => e = .returned (.string (showB m x)) ∧ Below w.heap.size w w' := by
  have VV := Lib.hid (fun w' (hb : Below w.heap.size w w') => refValidV_any m V x w' (hV.below hb))
  have LL := Lib.hid (fun w' (hb : Below w.heap.size w w') (h : errV 16 x = 0) => lit_any m 16 V x w' h (hV.below hb) (hlim h))
  clear hlim
  obtain ⟨k, t, i, s, l, ks, av, c, kv, kc, rfl, rfl, _⟩ := hV
  have B0 := Lib.hid ((Below.refl w.heap.size w).alloc (Nat.le_refl _) (.cells #[.int .i64 k, .bool t, .int .i64 i, .string s, .slice av l.length c, .slice kv ks.length kc] 25))
  by_cases h0 : errV 16 (.mk k t i s l ks) = 0
  · have E := Lib.hid (show showB m (.mk k t i s l ks) = ⟨(litV m (.mk k t i s l ks)).toArray⟩ by unfold showB; rw [if_pos h0])
    have L2 := Lib.hid (fun w' hb => LL.out w' hb h0)
    rw [h0] at VV
    have C0 := CellsAt.new w 25 #[.int .i64 k, .bool t, .int .i64 i, .string s, .slice av l.length c, .slice kv ks.length kc]
    clear LL h0
    go_enter Tryz.func19, Tryz.ntmps19
    go_wp2_with fail
    go_fit (VV.out _ B0.out)
    rintro e w1 ⟨rfl, hb1⟩
    have B1 := Lib.hid (B0.out.trans (hb1.mono B0.out.size))
    have C1 := C0.below hb1
    have d0 : w1.cell? ⟨w.heap.size, 0, none⟩ = some (.int .i64 k) := C1.cell rfl
    have d1 : w1.cell? ⟨w.heap.size, 1, none⟩ = some (.bool t) := C1.cell rfl
    have d2 : w1.cell? ⟨w.heap.size, 2, none⟩ = some (.int .i64 i) := C1.cell rfl
    have d3 : w1.cell? ⟨w.heap.size, 3, none⟩ = some (.string s) := C1.cell rfl
    have d4 : w1.cell? ⟨w.heap.size, 4, none⟩ = some (.slice av l.length c) := C1.cell rfl
    have d5 : w1.cell? ⟨w.heap.size, 5, none⟩ = some (.slice kv ks.length kc) := C1.cell rfl
    clear hb1 C0 C1
    go_wp2_with fail
    go_fit (L2.out _ B1.out)
    rintro e w2 ⟨rfl, hb2⟩
    have B2 := Lib.hid (B1.out.trans (hb2.mono B1.out.size))
    clear hb2
    go_wp2_with fail
    go_ret
    exact ⟨by rw [E.out]; rfl, B2.out⟩
  · have E := Lib.hid (show showB m (.mk k t i s l ks) = ⟨#[]⟩ by unfold showB; rw [if_neg h0])
    obtain ⟨z, hz⟩ : ∃ z, z = errV 16 (.mk k t i s l ks) := ⟨_, rfl⟩
    rw [← hz] at VV h0
    have g1 : ((z : Int) != 0) = true := by rw [bne_iff_ne]; omega
    clear LL h0 hz
    go_enter Tryz.func19, Tryz.ntmps19
    go_wp2_with fail
    go_fit (VV.out _ B0.out)
    rintro e w1 ⟨rfl, hb1⟩
    have B1 := Lib.hid (B0.out.trans (hb1.mono B0.out.size))
    clear hb1
    go_wp2_with fail
    go_ret
    exact ⟨by rw [E.out]; rfl, B1.out⟩
end Go.Proofs.YtabopneehhnhfaaGreatDoor
