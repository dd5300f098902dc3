/- Contracts of the program's itemByte and item (glob). -/
import Derived.Test.YtaalfnfikjmomaaGlbQ
namespace Go.Proofs.Ytaalfnfikjmomaa
open Go.RowKit Go.Lib

theorem ext_mk (s : ByteArray) (a b : Nat) : s.extract a b = ⟨((s.data.toList.take b).drop a).toArray⟩ := by
  apply ByteArray.ext
  apply Array.toList_inj.1
  simp [ByteArray.data_extract, List.drop_take]
theorem ext_drop (s : ByteArray) (n : Nat) : (s.extract n s.size).data.toList = s.data.toList.drop n := by
  rw [ext_mk]
  have : s.data.toList.take s.size = s.data.toList := List.take_of_length_le (by rw [lenB]; exact Nat.le_refl _)
  rw [this]
theorem ext_size (s : ByteArray) (n : Nat) : (s.extract n s.size).size = s.size - n := by
  rw [← lenB, ext_drop, List.length_drop, lenB]
/-- What itemByte gives. -/
def ItemBytePost (s : ByteArray) (w : World) (e : Ending) (w' : World) : Prop :=
  w = w' ∧ match memberL s.data.toList with
  | some (c, r) => ∃ n : Nat, n + r.length = s.size ∧ r = s.data.toList.drop n ∧ 0 < n ∧ n ≤ 2 ∧ e = .returned (.tuple #[.int .u8 c.toNat, .int .i64 n, .bool true])
  | none => e = .returned (.tuple #[.int .u8 0, .int .i64 0, .bool false])
theorem ne_list (s : ByteArray) (h : 0 < s.size) : s.toList.isEmpty = false ∧ ¬ s.toList = [] := by
  have e : ¬ s.toList = [] := by
    rw [ByteArray.toList_eq]
    intro e
    have := congrArg List.length e
    rw [lenB, List.length_nil] at this
    omega
  exact ⟨by cases h : s.toList with | nil => exact absurd h e | cons _ _ => rfl, e⟩
theorem index_0 (s : ByteArray) (h : 0 < s.size) (w : World) : (Instr.index 9 (.string s) (.int .i64 0)).run Try.prog w = .ok (.int .u8 (s[0].toNat : Int)) w := index_at s 0 h w
theorem index_1 (s : ByteArray) (h : 1 < s.size) (w : World) : (Instr.index 9 (.string s) (.int .i64 1)).run Try.prog w = .ok (.int .u8 (s[1].toNat : Int)) w := index_at s 1 h w
set_option maxHeartbeats 1000000 in
theorem itemByte_any (s : ByteArray) (hs : s.size ≤ 1099511627776) (w : World) :
    Calls Try.prog 57 #[.string s] w (ItemBytePost s w) := by
  by_cases h : 0 < s.size
  · have hix := index_0 s h
    have hd := drop_cons s 0 h
    rw [List.drop_zero] at hd
    have h1 : (0 : Int) < (s.size : Int) := by omega
    have h2 : (s.size : Int) ≤ 1099511627776 := by omega
    obtain ⟨z1, z2⟩ := ne_list s h
    obtain ⟨c, hc⟩ : ∃ c, c = s[0] := ⟨_, rfl⟩
    rw [← hc] at hd hix
    have hml : memberL s.data.toList = if c = 92 then (s.data.toList.drop 1).head?.map fun d => (d, (s.data.toList.drop 1).tail) else if c = 93 ∨ c = 45 then none else some (c, s.data.toList.drop 1) := by rw [hd, memberL]; rfl
    have hc9 := c.toNat_lt
    have e1 : c.toNat = 92 ↔ c = 92 := u8_lit (by omega)
    have e2 : c.toNat = 93 ↔ c = 93 := u8_lit (by omega)
    have e3 : c.toNat = 45 ↔ c = 45 := u8_lit (by omega)
    obtain ⟨n, hn⟩ : ∃ n, n = c.toNat := ⟨_, rfl⟩
    rw [← hn] at hix hc9 e1 e2 e3
    have n0 : (0 : Int) ≤ n ∧ (n : Int) < 256 := by omega
    by_cases c1 : n = 92
    · rw [if_pos (e1.1 c1)] at hml
      subst c1
      by_cases h3 : 1 < s.size
      · have hix1 := index_1 s h3
        have hd1 := drop_cons s 1 h3
        rw [hd1] at hml
        obtain ⟨d, hd9⟩ : ∃ d, d = s[1] := ⟨_, rfl⟩
        rw [← hd9] at hml hix1
        have HP := Lib.hid (show ∀ w, ItemBytePost s w (.returned (.tuple #[.int .u8 d.toNat, .int .i64 2, .bool true])) w from fun w => by
          refine ⟨rfl, ?_⟩
          rw [hml]
          exact ⟨2, by rw [List.tail_cons, List.length_drop, lenB]; omega, rfl, by omega, by omega, rfl⟩)
        have h3i : (1 : Int) < (s.size : Int) := by omega
        generalize d.toNat = k at hix1 HP
        clear hd hc hml h h3 hs hd1 hd9 e1 e2 e3 hn hc9
        go_enter Try.func57, Try.ntmps57
        go_wp2_with fail
        go_ret3
        exact HP.out _
      · have HP := Lib.hid (show ∀ w, ItemBytePost s w (.returned (.tuple #[.int .u8 0, .int .i64 0, .bool false])) w from fun w => by
          refine ⟨rfl, ?_⟩
          rw [hml, List.drop_eq_nil_of_le (by rw [lenB]; omega)]
          rfl)
        have h3i : (s.size : Int) = 1 := by omega
        clear hd hc hml h h3 hs e1 e2 e3 hn hc9
        go_enter Try.func57, Try.ntmps57
        go_wp2_with fail
        go_ret3
        exact HP.out _
    · rw [if_neg (fun e => c1 (e1.2 e))] at hml
      by_cases c2 : n = 93
      · rw [if_pos (.inl (e2.1 c2))] at hml
        subst c2
        have HP := Lib.hid (show ∀ w, ItemBytePost s w (.returned (.tuple #[.int .u8 0, .int .i64 0, .bool false])) w from fun w => ⟨rfl, by rw [hml]⟩)
        clear hd hc hml h hs e1 e2 e3 hn hc9 c1
        go_enter Try.func57, Try.ntmps57
        go_wp2_with fail
        go_ret3
        exact HP.out _
      by_cases c3 : n = 45
      · rw [if_pos (.inr (e3.1 c3))] at hml
        subst c3
        have HP := Lib.hid (show ∀ w, ItemBytePost s w (.returned (.tuple #[.int .u8 0, .int .i64 0, .bool false])) w from fun w => ⟨rfl, by rw [hml]⟩)
        clear hd hc hml h hs e1 e2 e3 hn hc9 c1 c2
        go_enter Try.func57, Try.ntmps57
        go_wp2_with fail
        go_ret3
        exact HP.out _
      rw [if_neg (fun e => e.elim (fun e => c2 (e2.2 e)) (fun e => c3 (e3.2 e)))] at hml
      have HP := Lib.hid (show ∀ w, ItemBytePost s w (.returned (.tuple #[.int .u8 n, .int .i64 1, .bool true])) w from fun w => by
        refine ⟨rfl, ?_⟩
        rw [hml]
        exact ⟨1, by rw [List.length_drop, lenB]; omega, rfl, by omega, by omega, by rw [hn]; rfl⟩)
      have k1 : ¬ (n : Int) = 92 := by omega
      have k2 : ¬ (n : Int) = 93 := by omega
      have k3 : ¬ (n : Int) = 45 := by omega
      have k4 : ((n : Int) != 92) = true := by simp; omega
      have k5 : ((n : Int) == 93) = false := by simp; omega
      have k6 : ((n : Int) == 45) = false := by simp; omega
      clear hd hc hml h hs e1 e2 e3 hn hc9 c1 c2 c3
      go_enter Try.func57, Try.ntmps57
      go_wp2_with fail
      go_ret3
      exact HP.out _
  · obtain rfl : s = ⟨#[]⟩ := by
      apply ByteArray.ext
      apply Array.toList_inj.1
      exact List.eq_nil_of_length_eq_zero (by rw [lenB]; omega)
    have HP := Lib.hid (show ∀ w, ItemBytePost ⟨#[]⟩ w (.returned (.tuple #[.int .u8 0, .int .i64 0, .bool false])) w from fun w => ⟨rfl, rfl⟩)
    clear h hs
    go_enter Try.func57, Try.ntmps57
    go_wp2_with fail
    go_ret3
    exact HP.out _
theorem itemL_none {l : List UInt8} (h : memberL l = none) : itemL l = none := by unfold itemL; rw [h]
theorem itemL_some {l r : List UInt8} {c : UInt8} (h : memberL l = some (c, r)) : itemL l = if r.head? = some 45 then (match memberL r.tail with | none => none | some (hi, r3) => if hi.toNat < c.toNat then none else some ((c, hi), r3)) else some ((c, c), r) := by unfold itemL; rw [h]; rfl
/-- What item gives. -/
def ItemPost (s : ByteArray) (w : World) (e : Ending) (w' : World) : Prop :=
  w = w' ∧ match itemL s.data.toList with
  | some (x, r) => ∃ n : Nat, n + r.length = s.size ∧ r = s.data.toList.drop n ∧ 0 < n ∧ n ≤ 5 ∧ e = .returned (.tuple #[.int .u8 x.1.toNat, .int .u8 x.2.toNat, .int .i64 n, .bool true])
  | none => ∃ a b n : Nat, e = .returned (.tuple #[.int .u8 a, .int .u8 b, .int .i64 n, .bool false])
set_option maxHeartbeats 2000000 in
theorem item_any (s : ByteArray) (hs : s.size ≤ 1099511627776) (w : World) :
    Calls Try.prog 55 #[.string s] w (ItemPost s w) := by
  have I := Lib.hid (fun w => itemByte_any s hs w)
  have h2 : (0 : Int) ≤ s.size ∧ (s.size : Int) ≤ 1099511627776 := by omega
  cases hm : memberL s.data.toList with
  | none =>
    have hml := itemL_none hm
    have HP := Lib.hid (show ∀ w, ItemPost s w (.returned (.tuple #[.int .u8 0, .int .u8 0, .int .i64 0, .bool false])) w from fun w => ⟨rfl, by rw [hml]; exact ⟨0, 0, 0, rfl⟩⟩)
    have I2 := Lib.hid (fun (w : World) (e : Ending) (w' : World) (h : ItemBytePost s w e w') => show w = w' ∧ e = Ending.returned (.tuple #[.int .u8 0, .int .i64 0, .bool false]) from by obtain ⟨h1, h3⟩ := (h : ItemBytePost s w e w'); rw [hm] at h3; exact ⟨h1, h3⟩)
    clear hm hml hs
    go_enter Try.func55, Try.ntmps55
    go_wp2_with fail
    go_fit (I.out _)
    intro e w1 h
    obtain ⟨rfl, rfl⟩ := I2.out _ _ _ h
    clear h
    go_wp2_with fail
    refine bodyPost_ret (v := .tuple #[.int .u8 0, .int .u8 0, .int .i64 0, .bool false]) (by simp [results, Try.results55, go_sem]) rfl (HP.out _)
  | some q =>
    obtain ⟨c, r⟩ := q
    have hml := itemL_some hm
    have I2 := Lib.hid (fun (w : World) (e : Ending) (w' : World) (h : ItemBytePost s w e w') => show w = w' ∧ ∃ n : Nat, n + r.length = s.size ∧ r = s.data.toList.drop n ∧ 0 < n ∧ n ≤ 2 ∧ e = Ending.returned (.tuple #[.int .u8 c.toNat, .int .i64 n, .bool true]) from by obtain ⟨h1, h3⟩ := (h : ItemBytePost s w e w'); rw [hm] at h3; exact ⟨h1, h3⟩)
    have ML := Lib.hid hml
    have HS := Lib.hid hs
    have HC := Lib.hid c.toNat_lt
    have c0 : (0 : Int) ≤ (c.toNat : Int) ∧ (c.toNat : Int) < 256 := by have := HC.out; omega
    obtain ⟨k, hk⟩ : ∃ k, k = c.toNat := ⟨_, rfl⟩
    have HK := Lib.hid hk
    rw [← hk] at I2 c0
    clear hm hml hs hk
    go_enter Try.func55, Try.ntmps55
    go_wp2_with fail
    go_fit (I.out _)
    intro e w1 h
    obtain ⟨rfl, n, hn, hr, hn0, hn2, rfl⟩ := I2.out _ _ _ h
    have HN := Lib.hid (And.intro hn hr)
    clear h
    have n0 : (0 : Int) < n ∧ (n : Int) ≤ 2 ∧ (n : Int) ≤ s.size := by omega
    by_cases hz : n = s.size
    · subst hz
      have HP := Lib.hid (show ∀ w, ItemPost s w (.returned (.tuple #[.int .u8 k, .int .u8 k, .int .i64 s.size, .bool true])) w from fun w => by
        refine ⟨rfl, ?_⟩
        have hr0 : r = [] := List.eq_nil_of_length_eq_zero (by omega)
        rw [ML.out, if_neg (by rw [hr0]; simp)]
        exact ⟨s.size, hn, hr, hn0, by omega, by rw [HK.out]⟩)
      clear hn hr hn0 hn2
      go_wp2_with fail
      refine bodyPost_ret (v := .tuple #[.int .u8 k, .int .u8 k, .int .i64 s.size, .bool true]) (by simp [results, Try.results55, go_sem]) rfl (HP.out _)
    have hlt : n < s.size := by omega
    have hix := index_at s n hlt
    have hd := drop_cons s n hlt
    obtain ⟨d, hd9⟩ : ∃ d, d = s[n] := ⟨_, rfl⟩
    rw [← hd9] at hd hix
    have e1 : d.toNat = 45 ↔ d = 45 := u8_lit (by omega)
    have d9 := d.toNat_lt
    obtain ⟨m, hm⟩ : ∃ m, m = d.toNat := ⟨_, rfl⟩
    rw [← hm] at hix d9 e1
    have m0 : (0 : Int) ≤ m ∧ (m : Int) < 256 := by omega
    have l0 : (0 : Int) ≤ n ∧ (n : Int) < (s.size : Int) := by omega
    have z0 : ((n : Int) == (s.size : Int)) = false := by simp; omega
    by_cases hm45 : m = 45
    · have hd45 := e1.1 hm45
      have hr45 : r.head? = some 45 := by rw [hr, hd, hd45]; rfl
      have ht : r.tail = (s.extract (n + 1) s.size).data.toList := by rw [ext_drop, hr, hd]; rfl
      have hts : (s.extract (n + 1) s.size).size = s.size - (n + 1) := ext_size s (n + 1)
      obtain ⟨t, htt⟩ : ∃ t, t = s.extract (n + 1) s.size := ⟨_, rfl⟩
      rw [← htt] at ht hts
      have ML2 := Lib.hid (show itemL s.data.toList = (match memberL t.data.toList with | none => none | some (hi, r3) => if hi.toNat < c.toNat then none else some ((c, hi), r3)) by rw [ML.out, if_pos hr45, ht])
      have J := Lib.hid (fun w => itemByte_any t (by have := HS.out; omega) w)
      have HD := Lib.hid (show t.data.toList = s.data.toList.drop (n + 1) by rw [htt, ext_drop])
      have hsl := htt.symm
      have l1 : (n : Int) + 1 ≤ (s.size : Int) := by omega
      have HT := Lib.hid hts
      subst hm45
      clear hr45 ht htt hts hd hd9 hd45 e1 d9 hm hlt hz hn hr hn0 hn2
      cases hm : memberL t.data.toList with
      | none =>
        have HP := Lib.hid (show ∀ (m : Nat) (w : World), ItemPost s w (.returned (.tuple #[.int .u8 k, .int .u8 0, .int .i64 m, .bool false])) w from fun m w => by
          refine ⟨rfl, ?_⟩
          have := ML2.out
          rw [hm] at this
          rw [this]
          exact ⟨k, 0, m, rfl⟩)
        have J2 := Lib.hid (fun (w : World) (e : Ending) (w' : World) (h : ItemBytePost t w e w') => show w = w' ∧ e = Ending.returned (.tuple #[.int .u8 0, .int .i64 0, .bool false]) from by obtain ⟨h1, h3⟩ := (h : ItemBytePost t w e w'); rw [hm] at h3; exact ⟨h1, h3⟩)
        clear hm
        go_wp2_with fail
        go_fit (J.out _)
        intro e w1 h
        obtain ⟨rfl, rfl⟩ := J2.out _ _ _ h
        clear h
        go_wp2_with fail
        refine bodyPost_ret (v := .tuple #[.int .u8 k, .int .u8 0, .int .i64 ((n + 1 : Nat) : Int), .bool false]) (by simp [results, Try.results55, go_sem]) rfl (HP.out _ _)
      | some q =>
        obtain ⟨d, r3⟩ := q
        have J2 := Lib.hid (fun (w : World) (e : Ending) (w' : World) (h : ItemBytePost t w e w') => show w = w' ∧ ∃ n : Nat, n + r3.length = t.size ∧ r3 = t.data.toList.drop n ∧ 0 < n ∧ n ≤ 2 ∧ e = Ending.returned (.tuple #[.int .u8 d.toNat, .int .i64 n, .bool true]) from by obtain ⟨h1, h3⟩ := (h : ItemBytePost t w e w'); rw [hm] at h3; exact ⟨h1, h3⟩)
        have ML3 := Lib.hid (show itemL s.data.toList = if d.toNat < c.toNat then none else some ((c, d), r3) by have := ML2.out; rw [hm] at this; exact this)
        have d9 := d.toNat_lt
        obtain ⟨j, hj⟩ : ∃ j, j = d.toNat := ⟨_, rfl⟩
        rw [← hj] at J2 d9
        have j0 : (0 : Int) ≤ j ∧ (j : Int) < 256 := by omega
        have HJ := Lib.hid hj
        clear hm hj d9
        go_wp2_with fail
        go_fit (J.out _)
        intro e w1 h
        obtain ⟨rfl, n2, hn, hr, hn0, hn2, rfl⟩ := J2.out _ _ _ h
        have p0 : (0 : Int) < n2 ∧ (n2 : Int) ≤ 2 := by omega
        have R3 := Lib.hid (show n + 1 + n2 + r3.length = s.size ∧ r3 = s.data.toList.drop (n + 1 + n2) from ⟨by have := HT.out; omega, by rw [hr, HD.out, List.drop_drop]⟩)
        have q0 : 0 < n2 ∧ n2 ≤ 2 ∧ 0 < n ∧ n ≤ 2 := by omega
        have Q0 := Lib.hid q0
        clear h hn hr hn0 hn2 q0
        by_cases hlt : j < k
        · have HP := Lib.hid (show ∀ (m : Nat) (w : World), ItemPost s w (.returned (.tuple #[.int .u8 k, .int .u8 j, .int .i64 m, .bool false])) w from fun m w => by
            refine ⟨rfl, ?_⟩
            rw [ML3.out, if_pos (by rw [← HJ.out, ← HK.out]; exact hlt)]
            exact ⟨k, j, m, rfl⟩)
          have l9 : ¬ (k : Int) ≤ j := by omega
          clear hlt
          go_wp2_with fail
          refine bodyPost_ret (v := .tuple #[.int .u8 k, .int .u8 j, .int .i64 ((n + 1 + n2 : Nat) : Int), .bool false]) (by simp [results, Try.results55, go_sem]; omega) rfl (HP.out _ _)
        · have HP := Lib.hid (show ∀ (w : World), ItemPost s w (.returned (.tuple #[.int .u8 k, .int .u8 j, .int .i64 ((n + 1 + n2 : Nat) : Int), .bool true])) w from fun w => by
            refine ⟨rfl, ?_⟩
            rw [ML3.out, if_neg (by rw [← HJ.out, ← HK.out]; exact hlt)]
            exact ⟨n + 1 + n2, R3.out.1, R3.out.2, by omega, by have := Q0.out; omega, by rw [HJ.out, HK.out]⟩)
          have l9 : (k : Int) ≤ j := by omega
          clear hlt
          go_wp2_with fail
          refine bodyPost_ret (v := .tuple #[.int .u8 k, .int .u8 j, .int .i64 ((n + 1 + n2 : Nat) : Int), .bool true]) (by simp [results, Try.results55, go_sem]) rfl (HP.out _)
    · have HP := Lib.hid (show ∀ w, ItemPost s w (.returned (.tuple #[.int .u8 k, .int .u8 k, .int .i64 n, .bool true])) w from fun w => by
        refine ⟨rfl, ?_⟩
        rw [ML.out, if_neg (by rw [hr, hd, List.head?_cons]; intro e; exact hm45 (e1.2 (Option.some.inj e)))]
        exact ⟨n, hn, hr, hn0, by omega, by rw [HK.out]⟩)
      have k4 : ((m : Int) != 45) = true := by simp; omega
      clear hn hr hn0 hn2 hz hd hd9 e1 d9 hm hm45 hlt
      go_wp2_with fail
      refine bodyPost_ret (v := .tuple #[.int .u8 k, .int .u8 k, .int .i64 n, .bool true]) (by simp [results, Try.results55, go_sem]) rfl (HP.out _)
end Go.Proofs.Ytaalfnfikjmomaa
