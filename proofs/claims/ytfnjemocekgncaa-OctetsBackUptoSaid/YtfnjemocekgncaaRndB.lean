/- Fields are decoded from their record; a proper prefix of it is truncated; what is decoded is the record of its fields: the plain functions of octets alone. -/
import Derived.Test.YtfnjemocekgncaaRndA
import Derived.Test.YtfnjemocekgncaaOpenF
namespace Go.Proofs.Ytfnjemocekgncaa
open Go.RowKit Go.Lib

theorem flat_mem_len (e : Fd → List UInt8) : ∀ (l : List Fd) (f : Fd), f ∈ l → (e f).length ≤ (l.flatMap e).length
  | [], f, h => by simp at h
  | x :: l, f, h => by
    rw [List.flatMap_cons, List.length_append]
    rcases List.mem_cons.1 h with rfl | h
    · omega
    · have := flat_mem_len e l f h; omega
theorem flat_len_ge (e : Fd → List UInt8) : ∀ (l : List Fd), (∀ f, f ∈ l → 1 ≤ (e f).length) → l.length ≤ (l.flatMap e).length
  | [], h => by simp
  | x :: l, h => by
    have h1 := h x (by simp)
    have h2 := flat_len_ge e l (fun f hf => h f (by simp [hf]))
    rw [List.flatMap_cons, List.length_append, List.length_cons]
    omega
theorem encF_pos (m : Nat) (f : Fd) : 1 ≤ (encF (m + 1) f).length := by
  obtain ⟨k, i, s, l⟩ := f
  simp [encF]
theorem map_same (φ : Fd → Fd) (l : List Fd) (h : ∀ f, f ∈ l → φ f = f) : l.map φ = l := by
  rw [List.map_congr_left h]; simp

/-- A valid field is decoded from its encoding, whatever follows; a proper prefix of it is truncated. -/
theorem field_put : ∀ (n m : Nat) (f : Fd), FOk m f → vErr n f = 0 → (encF (m + 1) f).length ≤ 140737488355328 →
    (∀ r, pField n (encF (m + 1) f ++ r) = (0, f, r)) ∧ ∀ c, c < (encF (m + 1) f).length → (pField n ((encF (m + 1) f).take c)).1 = 4 := by
  intro n
  induction n with
  | zero => intro m f _ h _; cases f; simp [vErr] at h
  | succ n ih =>
    intro m f hok hv hlim
    obtain ⟨k, i, s, l⟩ := f
    obtain ⟨n', hn', hc⟩ := valid_cases hv
    obtain rfl : n = n' := by omega
    rcases hc with ⟨rfl, rfl, rfl⟩ | ⟨rfl, rfl, rfl⟩ | ⟨rfl, rfl, rfl, hl⟩
    · have hb : -9223372036854775808 ≤ i ∧ i ≤ 9223372036854775807 := by cases m <;> exact hok.1
      have hz := Lib.zigzag_lt hb.1 hb.2
      have he : encF (m + 1) (.mk 0 i ⟨#[]⟩ []) = 0 :: Lib.uvarint (Lib.zigzag i) := by simp [encF, kindB]
      rw [he]
      refine ⟨fun r => ?_, fun c hc => ?_⟩
      · rw [List.cons_append, pField, if_pos (by decide), take_put _ _ hz]
        simp [unzig_zigzag]
      · cases c with
        | zero => rfl
        | succ c =>
          have h4 := take_cut _ c hz (by simpa using hc)
          rw [List.take_succ_cons, pField, if_pos (by decide), if_pos (by omega)]
          exact h4
    · have he : encF (m + 1) (.mk 1 0 s []) = 1 :: encS s := by simp [encF, kindB]
      have hs : s.size < 18446744073709551616 := by
        rw [he] at hlim
        have e : s.data.size = s.size := rfl
        simp [encS] at hlim
        omega
      rw [he]
      refine ⟨fun r => ?_, fun c hc => ?_⟩
      · rw [List.cons_append, pField, if_neg (by decide), if_pos (by decide), takeS_app s r hs]
        simp
      · cases c with
        | zero => rfl
        | succ c =>
          have h4 := takeS_cut s c hs (by simpa using hc)
          rw [List.take_succ_cons, pField, if_neg (by decide), if_pos (by decide), if_pos (by omega)]
          exact h4
    · have he : encF (m + 1) (.mk 2 0 ⟨#[]⟩ l) = 2 :: (Lib.uvarint l.length ++ l.flatMap (encF m)) := by simp [encF, kindB]
      rw [he] at hlim ⊢
      rw [List.length_cons, List.length_append] at hlim
      have key : l.length < 18446744073709551616 ∧ (∀ f, f ∈ l → (∀ r, pField n (encF m f ++ r) = (0, id f, r)) ∧ ∀ c, c < (encF m f).length → (pField n ((encF m f).take c)).1 = 4) := by
        cases m with
        | zero =>
          have : l = [] := hok.2
          subst this
          simp
        | succ m =>
          have hge := flat_len_ge (encF (m + 1)) l (fun f _ => encF_pos m f)
          refine ⟨by omega, fun f hf => ?_⟩
          have := flat_mem_len (encF (m + 1)) l f hf
          exact ih m f (hok.2 f hf) (hl f hf) (by omega)
      refine ⟨fun r => ?_, fun c hc => ?_⟩
      · have h1 := pFields_put (pField n) (encF m) id l r key.1 (fun f hf => (key.2 f hf).1)
        rw [List.cons_append, pField, if_neg (by decide), if_neg (by decide), if_pos (by decide), h1]
        simp
      · cases c with
        | zero => rfl
        | succ c =>
          have h4 := pFields_cut (pField n) (encF m) id l c key.1 (fun f hf => (key.2 f hf).1) (fun f hf => (key.2 f hf).2) (by simpa using hc)
          rw [List.take_succ_cons, pField, if_neg (by decide), if_neg (by decide), if_pos (by decide), if_pos (by omega)]
          exact h4

/-- A field as a record holds it. -/
def normF (f : Fd) : Fd := if vErr 128 f ≠ 0 then zeroF else f
theorem encV_put (m : Nat) (f : Fd) (hok : FOk m f) (hlim : (encV (m + 1) f).length ≤ 140737488355328) :
    (∀ r, pField 128 (encV (m + 1) f ++ r) = (0, normF f, r)) ∧ ∀ c, c < (encV (m + 1) f).length → (pField 128 ((encV (m + 1) f).take c)).1 = 4 := by
  unfold encV at hlim ⊢
  unfold normF
  by_cases h : vErr 128 f ≠ 0
  · rw [if_pos h] at hlim ⊢
    rw [if_pos h]
    refine field_put 128 m zeroF ?_ (show vErr (127 + 1) zeroF = 0 by simp [zeroF, vErr, badB, firstOf, ByteArray.toList_eq]) hlim
    cases m with
    | zero => exact ⟨by omega, rfl⟩
    | succ m => exact ⟨by omega, fun f hf => by simp at hf⟩
  · rw [if_neg h] at hlim ⊢
    rw [if_neg h]
    exact field_put 128 m f hok (by omega) hlim

theorem encV_pos (m : Nat) (f : Fd) : 1 ≤ (encV (m + 1) f).length := by
  unfold encV
  split
  · exact encF_pos _ _
  · exact encF_pos _ _
/-- THE RECORD: it is decoded to the fields as it holds them, and its proper prefixes are truncated. -/
theorem record_back {w : World} (m : Nat) (v : Option Addr) (l : List Fd) (hr : ReadsF m w v l) (hlim : (encR m l).length + 10 ≤ 140737488355328) :
    pTop (encR m l) = (0, l.map normF) ∧ ∀ c, c < (encR m l).length → pTop ((encR m l).take c) = (4, []) := by
  have key : l.length < 18446744073709551616 ∧ ∀ f, f ∈ l → (∀ r, pField 128 (encV m f ++ r) = (0, normF f, r)) ∧ ∀ c, c < (encV m f).length → (pField 128 ((encV m f).take c)).1 = 4 := by
    unfold encR at hlim
    rw [List.length_append] at hlim
    cases m with
    | zero =>
      have : l = [] := hr
      subst this
      simp
    | succ m =>
      have hge := flat_len_ge (encV (m + 1)) l (fun f _ => encV_pos m f)
      refine ⟨by omega, fun f hf => ?_⟩
      have := flat_mem_len (encV (m + 1)) l f hf
      exact encV_put m f (reads_ok m v l hr f hf) (by omega)
  constructor
  · have h1 := pFields_put (pField 128) (encV m) normF l [] key.1 (fun f hf => (key.2 f hf).1)
    rw [List.append_nil] at h1
    unfold pTop
    rw [show encR m l = Lib.uvarint l.length ++ l.flatMap (encV m) from rfl, h1]
    simp
  · intro c hc
    have h4 := pFields_cut (pField 128) (encV m) normF l c key.1 (fun f hf => (key.2 f hf).1) (fun f hf => (key.2 f hf).2) hc
    unfold pTop
    rw [show encR m l = Lib.uvarint l.length ++ l.flatMap (encV m) from rfl, if_pos (by omega), h4]

/-- WHAT IS DECODED is the record of its fields. -/
theorem takeFrom_back : ∀ (l : List UInt8) (i acc : Nat), i ≤ 9 → (takeFrom i acc l).2.2 = 0 → ∃ x, (takeFrom i acc l).1 = acc + x * 128 ^ i ∧ (takeFrom i acc l).2.1 = i + (Lib.uvarint x).length ∧ l = Lib.uvarint x ++ l.drop (Lib.uvarint x).length ∧ (0 < i → 0 < x)
  | [], i, acc, hi, h => by simp [takeFrom] at h
  | b :: r, i, acc, hi, h => by
    unfold takeFrom at h ⊢
    have hb := b.toNat_lt
    by_cases c1 : i = 9 ∧ 1 < b.toNat
    · rw [if_pos c1] at h; simp at h
    · rw [if_neg c1] at h ⊢
      by_cases c2 : 0 < i ∧ b.toNat = 0
      · rw [if_pos c2] at h; simp at h
      · rw [if_neg c2] at h ⊢
        by_cases c3 : b.toNat < 128
        · rw [if_pos c3] at h ⊢
          refine ⟨b.toNat, by rw [Nat.mod_eq_of_lt c3], ?_, ?_, by omega⟩
          · rw [Lib.uvarint_small c3]; simp
          · rw [Lib.uvarint_small c3]; simp
        · rw [if_neg c3] at h ⊢
          have hi9 : i ≠ 9 := by intro e; apply c1; exact ⟨e, by omega⟩
          obtain ⟨x, h1, h2, h3, h4⟩ := takeFrom_back r (i + 1) (acc + b.toNat % 128 * 128 ^ i) (by omega) h
          have hx := h4 (by omega)
          have hbig : Lib.uvarint (b.toNat % 128 + 128 * x) = b :: Lib.uvarint x := by
            rw [Lib.uvarint_big (by omega), show (b.toNat % 128 + 128 * x) % 128 + 128 = b.toNat by omega, show (b.toNat % 128 + 128 * x) / 128 = x by omega]
            congr 1
            apply UInt8.toNat_inj.1
            simp
          refine ⟨b.toNat % 128 + 128 * x, ?_, ?_, ?_, by omega⟩
          · rw [h1, Nat.add_mul, Nat.pow_succ, Nat.mul_comm 128 x, Nat.mul_assoc, Nat.mul_comm 128 (128 ^ i)]
            omega
          · rw [hbig, h2, List.length_cons]; omega
          · rw [hbig, List.length_cons, List.drop_succ_cons, List.cons_append, ← h3]
theorem take_back (l : List UInt8) (h : (take l).2.2 = 0) : l = Lib.uvarint (take l).1 ++ l.drop (take l).2.1 ∧ (take l).1 < 18446744073709551616 := by
  obtain ⟨x, h1, h2, h3, _⟩ := takeFrom_back l 0 0 (by omega) h
  have e1 : (take l).1 = x := by unfold take; rw [h1]; simp
  have e2 : (take l).2.1 = (Lib.uvarint x).length := by unfold take; rw [h2]; simp
  refine ⟨by rw [e1, e2]; exact h3, (take_facts l).1⟩
theorem zigzag_unzig (u : Nat) : Lib.zigzag (unzig u) = u := by
  unfold unzig Lib.zigzag
  split <;> split <;> omega
theorem takeS_back (l : List UInt8) (h : (takeS l).2.2 = 0) : l = encS ⟨(takeS l).1.toArray⟩ ++ l.drop (takeS l).2.1 := by
  unfold takeS at h ⊢
  by_cases h1 : (take l).2.2 ≠ 0
  · rw [if_pos h1] at h; exact absurd h h1
  · rw [if_neg h1] at h ⊢
    by_cases h2 : l.length - (take l).2.1 < (take l).1
    · rw [if_pos h2] at h; simp at h
    · rw [if_neg h2] at h ⊢
      obtain ⟨h3, _⟩ := take_back l (by omega)
      have hl : ((l.drop (take l).2.1).take (take l).1).length = (take l).1 := by rw [List.length_take, List.length_drop]; omega
      have e : (⟨((l.drop (take l).2.1).take (take l).1).toArray⟩ : ByteArray).size = (take l).1 := by
        show (((l.drop (take l).2.1).take (take l).1).toArray).size = _
        simpa using hl
      unfold encS
      rw [e]
      simp only
      rw [← List.drop_drop, List.append_assoc, List.take_append_drop]
      exact h3
theorem pList_back (g : List UInt8 → Nat × Fd × List UInt8) (e : Fd → List UInt8) (Q : Fd → Prop) (hg : ∀ b, (g b).1 = 0 → Q (g b).2.1 ∧ b = e (g b).2.1 ++ (g b).2.2) : ∀ (c : Nat) (b : List UInt8), (pList g c b).1 = 0 →
    (pList g c b).2.1.length = c ∧ (∀ f, f ∈ (pList g c b).2.1 → Q f) ∧ b = (pList g c b).2.1.flatMap e ++ (pList g c b).2.2
  | 0, b, _ => by simp [pList]
  | c + 1, b, h => by
    unfold pList at h ⊢
    by_cases h1 : (g b).1 ≠ 0
    · rw [if_pos h1] at h; exact absurd h h1
    · rw [if_neg h1] at h ⊢
      by_cases h2 : (pList g c (g b).2.2).1 ≠ 0
      · rw [if_pos h2] at h; exact absurd h h2
      · rw [if_neg h2] at h ⊢
        obtain ⟨k1, k2⟩ := hg b (by omega)
        obtain ⟨k3, k4, k5⟩ := pList_back g e Q hg c (g b).2.2 (by omega)
        refine ⟨by simp [k3], ?_, ?_⟩
        · intro f hf
          rcases List.mem_cons.1 hf with rfl | hf
          · exact k1
          · exact k4 f hf
        · simp only [List.flatMap_cons, List.append_assoc]
          rw [← k5]
          exact k2
theorem pFields_back (g : List UInt8 → Nat × Fd × List UInt8) (e : Fd → List UInt8) (Q : Fd → Prop) (hg : ∀ b, (g b).1 = 0 → Q (g b).2.1 ∧ b = e (g b).2.1 ++ (g b).2.2) (b : List UInt8) (h : (pFields g b).1 = 0) :
    (∀ f, f ∈ (pFields g b).2.1 → Q f) ∧ b = Lib.uvarint (pFields g b).2.1.length ++ (pFields g b).2.1.flatMap e ++ (pFields g b).2.2 := by
  unfold pFields at h ⊢
  by_cases h1 : (take b).2.2 ≠ 0
  · rw [if_pos h1] at h; exact absurd h h1
  · rw [if_neg h1] at h ⊢
    obtain ⟨h3, _⟩ := take_back b (by omega)
    obtain ⟨k3, k4, k5⟩ := pList_back g e Q hg _ _ h
    refine ⟨k4, ?_⟩
    rw [k3, List.append_assoc, ← k5]
    exact h3
theorem pField_back : ∀ (n : Nat) (b : List UInt8), (pField n b).1 = 0 → vErr n (pField n b).2.1 = 0 ∧ b = encF n (pField n b).2.1 ++ (pField n b).2.2
  | 0, b, h => by simp [pField] at h
  | n + 1, [], h => by simp [pField] at h
  | n + 1, k :: l, h => by
    have hk : ∀ q : Nat, k.toNat = q → q < 3 → k = kindB q := by
      intro q hq h3
      apply UInt8.toNat_inj.1
      rw [hq]
      match q, h3 with
      | 0, _ => rfl
      | 1, _ => rfl
      | 2, _ => rfl
    unfold pField at h ⊢
    by_cases k0 : k.toNat = 0
    · rw [if_pos k0] at h ⊢
      by_cases he : (take l).2.2 ≠ 0
      · rw [if_pos he] at h; exact absurd h he
      · rw [if_neg he] at h ⊢
        obtain ⟨h3, _⟩ := take_back l (by omega)
        refine ⟨by simp [vErr, badB, firstOf, ByteArray.toList_eq], ?_⟩
        have hk0 := hk 0 k0 (by omega)
        simp only [encF, if_true, zigzag_unzig, List.cons_append]
        rw [← h3]
        rw [hk0]
        rfl
    · rw [if_neg k0] at h ⊢
      by_cases k1 : k.toNat = 1
      · rw [if_pos k1] at h ⊢
        by_cases he : (takeS l).2.2 ≠ 0
        · rw [if_pos he] at h; exact absurd h he
        · rw [if_neg he] at h ⊢
          have h3 := takeS_back l (by omega)
          refine ⟨by simp [vErr, badB, firstOf], ?_⟩
          have hk0 := hk 1 k1 (by omega)
          have e : encF (n + 1) (.mk 1 0 ⟨(takeS l).1.toArray⟩ []) = kindB 1 :: encS ⟨(takeS l).1.toArray⟩ := by simp [encF]
          simp only
          rw [e, List.cons_append, ← h3, hk0]
          rfl
      · rw [if_neg k1] at h ⊢
        by_cases k2 : k.toNat = 2
        · rw [if_pos k2] at h ⊢
          by_cases he : (pFields (pField n) l).1 ≠ 0
          · rw [if_pos he] at h; exact absurd h he
          · rw [if_neg he] at h ⊢
            obtain ⟨h3, h4⟩ := pFields_back (pField n) (encF n) (fun f => vErr n f = 0) (fun b hb => pField_back n b hb) l (by omega)
            refine ⟨?_, ?_⟩
            · have := (firstOf_zero (vErr n) (pFields (pField n) l).2.1).2 h3
              simp [vErr, badB, this, ByteArray.toList_eq]
            · have hk0 := hk 2 k2 (by omega)
              have e : encF (n + 1) (.mk 2 0 ⟨#[]⟩ (pFields (pField n) l).2.1) = kindB 2 :: (Lib.uvarint (pFields (pField n) l).2.1.length ++ (pFields (pField n) l).2.1.flatMap (encF n)) := by simp [encF]
              simp only
              rw [e, List.cons_append, ← h4, hk0]
              rfl
        · rw [if_neg k2] at h; simp at h
theorem flat_congr (e e' : Fd → List UInt8) : ∀ l : List Fd, (∀ f, f ∈ l → e f = e' f) → l.flatMap e = l.flatMap e'
  | [], _ => rfl
  | x :: l, h => by rw [List.flatMap_cons, List.flatMap_cons, h x (by simp), flat_congr e e' l (fun f hf => h f (by simp [hf]))]
theorem top_back (b : List UInt8) (h : (pTop b).1 = 0) : encR 128 (pTop b).2 = b := by
  unfold pTop at h ⊢
  by_cases h1 : (pFields (pField 128) b).1 ≠ 0
  · rw [if_pos h1] at h; exact absurd h h1
  · rw [if_neg h1] at h ⊢
    by_cases h2 : (pFields (pField 128) b).2.2.length ≠ 0
    · rw [if_pos h2] at h; simp at h
    · rw [if_neg h2]
      obtain ⟨h3, h4⟩ := pFields_back (pField 128) (encF 128) (fun f => vErr 128 f = 0) (fun b hb => pField_back 128 b hb) b (by omega)
      have h5 : (pFields (pField 128) b).2.2 = [] := List.eq_nil_of_length_eq_zero (by omega)
      rw [h5, List.append_nil] at h4
      have h6 := flat_congr (encV 128) (encF 128) (pFields (pField 128) b).2.1 (fun f hf => by unfold encV; rw [if_neg (by simp [h3 f hf])])
      show Lib.uvarint _ ++ _ = b
      rw [h6]
      exact h4.symm
theorem encR_len2 (m : Nat) (L : List Fd) (hb : (L.flatMap (encF m)).length ≤ 22 * 1048577) (hl : L.length ≤ 9223372036854775807) : (encR m L).length + 10 ≤ 1099511627776 := by
  have h1 := flatV_le m L
  have h2 := Lib.uvarint_length64 (x := L.length) (by omega)
  unfold encR
  rw [List.length_append]
  omega
end Go.Proofs.Ytfnjemocekgncaa
