/- The contract of the condition that each statement of layer 2 asks first: it is met. -/
import Derived.Test.YtfnjemocekgncaaFldD
namespace Go.Proofs.Ytfnjemocekgncaa
open Go.RowKit Go.Lib

/-- An owned row of bytes reads as these bytes. -/
theorem own_reads {w : World} {B n : Nat} {v : Value} {l : List UInt8} (h : w.ownsRow B 5 1 v n (Lib.byteCells l)) (hn : n = l.length) : ∃ a c, v = .slice a l.length c ∧ l.length ≤ c ∧ c ≤ maxLen ∧ ReadsBytes w a l := by
  rcases h.2 with ⟨rfl, h0⟩ | ⟨g, cap, cur, rfl, _, hg, hnc, hcm, _⟩
  · have hl : l = [] := List.eq_nil_of_length_eq_zero (by omega)
    subst hl
    exact ⟨none, 0, rfl, by simp, by simp, fun k hk => by simp at hk⟩
  · subst hn
    refine ⟨some ⟨g, 0, none⟩, cap, rfl, hnc, hcm, ?_⟩
    intro k hk
    have hlt := (Array.getElem?_eq_some_iff.1 hg).1
    refine ⟨g, 0, rfl, hlt, ?_⟩
    have hc := h.cells rfl k (.int .u8 (l[k]).toNat) (by simp [Lib.byteCells, hk])
    have e : (⟨g, 0, none⟩ : Addr).add k = ⟨g, 0 + k, none⟩ := by
      unfold Addr.add
      split
      · rename_i h; subst h; rfl
      · rfl
    rw [e] at hc
    exact hc
theorem ReadsBytes.below {w w' : World} {v : Option Addr} {l : List UInt8} (h : ReadsBytes w v l) (hb : Below w.heap.size w w') : ReadsBytes w' v l := by
  intro k hk
  obtain ⟨b, off, e, hlt, hc⟩ := h k hk
  exact ⟨b, off, e, Nat.lt_of_lt_of_le hlt hb.size, (hb.cell (p := ⟨b, off + k, none⟩) hlt).trans hc⟩

def ex1 : Fd := .mk 0 5 ⟨#[]⟩ []
def ex2 : Fd := .mk 2 0 ⟨#[]⟩ [.mk 1 0 ⟨#[97]⟩ []]
theorem ex_enc : encR 2 [ex1, ex2] = [2, 0, 10, 2, 1, 1, 1, 97] := by
  have v1 : vErr 128 ex1 = 0 := by
    show vErr (127 + 1) ex1 = 0
    simp [ex1, vErr, badB, firstOf]
  have v2 : vErr 128 ex2 = 0 := by
    show vErr (126 + 1 + 1) ex2 = 0
    simp [ex2, vErr, badB, firstOf]
  have u2 : Lib.uvarint 2 = [2] := Lib.uvarint_small (by omega)
  have u1 : Lib.uvarint 1 = [1] := Lib.uvarint_small (by omega)
  have u10 : Lib.uvarint (Lib.zigzag 5) = [10] := by rw [show Lib.zigzag 5 = 10 by decide]; exact Lib.uvarint_small (by omega)
  unfold encR encV
  simp only [List.flatMap_cons, List.flatMap_nil, v1, v2, List.length_cons, List.length_nil]
  simp [ex1, ex2, encF, encS, u2, u1, u10, kindB, ByteArray.size]
theorem take_ex : take [172, 2] = (300, 2, 0) := by decide
theorem put_ex : Lib.uvarint (Lib.zigzag (-2)) = [3] := by rw [show Lib.zigzag (-2) = 3 by decide]; exact Lib.uvarint_small (by omega)

theorem reads_ex (P1 P2 : Nat) (w : World) (h1 : P1 < w.heap.size) (h2 : P2 < w.heap.size)
    (a0 : w.cell? ⟨P1, 0, none⟩ = some (.int .i64 1)) (a1 : w.cell? ⟨P1, 1, none⟩ = some (.int .i64 0)) (a2 : w.cell? ⟨P1, 2, none⟩ = some (.string ⟨#[97]⟩)) (a3 : w.cell? ⟨P1, 3, none⟩ = some (.slice none 0 0))
    (b0 : w.cell? ⟨P2, 0, none⟩ = some (.int .i64 0)) (b1 : w.cell? ⟨P2, 1, none⟩ = some (.int .i64 5)) (b2 : w.cell? ⟨P2, 2, none⟩ = some (.string ⟨#[]⟩)) (b3 : w.cell? ⟨P2, 3, none⟩ = some (.slice none 0 0))
    (c0 : w.cell? ⟨P2, 4, none⟩ = some (.int .i64 2)) (c1 : w.cell? ⟨P2, 5, none⟩ = some (.int .i64 0)) (c2 : w.cell? ⟨P2, 6, none⟩ = some (.string ⟨#[]⟩)) (c3 : w.cell? ⟨P2, 7, none⟩ = some (.slice (some ⟨P1, 0, none⟩) 1 1)) :
    ReadsF 2 w (some ⟨P2, 0, none⟩) [ex1, ex2] := by
  intro j hj
  match j, hj with
  | 0, _ => exact ⟨P2, 0, 0, 5, ⟨#[]⟩, none, 0, [], rfl, rfl, h2, b0, b1, b2, b3, by omega, by omega, by omega, by omega, by simp, fun k hk => by simp at hk⟩
  | 1, _ =>
    refine ⟨P2, 0, 2, 0, ⟨#[]⟩, some ⟨P1, 0, none⟩, 1, [.mk 1 0 ⟨#[97]⟩ []], rfl, rfl, h2, c0, c1, c2, c3, by omega, by omega, by omega, by omega, by simp, ?_⟩
    intro k hk
    match k, hk with
    | 0, _ => exact ⟨P1, 0, 1, 0, ⟨#[97]⟩, none, 0, [], rfl, rfl, h1, a0, a1, a2, a3, by omega, by omega, by omega, by omega, by simp, rfl⟩

/-- Record's contract at the example. -/
theorem Record_ex (P2 : Nat) (w : World) (hr : ReadsF 2 w (some ⟨P2, 0, none⟩) [ex1, ex2]) :
    Calls Try.prog 25 #[.slice (some ⟨P2, 0, none⟩) 2 2] w (Owns w.heap.size 0 [] w [2, 0, 10, 2, 1, 1, 1, 97]) := by
  have h := Record_any 2 (some ⟨P2, 0, none⟩) 2 [ex1, ex2] w (by simp) hr (by rw [ex_enc]; simp)
  rwa [ex_enc] at h

theorem PutInt_ex (w : World) : Calls Try.prog 11 #[.int .i64 (-2)] w (Owns w.heap.size 0 [] w [3]) := by
  have h := PutInt_any (-2) (by omega) (by omega) w
  rwa [put_ex] at h
theorem takeU_ex (B : Nat) (w : World) (h0 : w.cell? ⟨B, 0, none⟩ = some (.int .u8 172)) (h1 : w.cell? ⟨B, 1, none⟩ = some (.int .u8 2)) (hB : B < w.heap.size) :
    Calls Try.prog 15 #[.slice (some ⟨B, 0, none⟩) 2 2] w fun e w' => e = .returned (.tuple #[.int .u64 300, .int .i64 2, .int .i64 0]) ∧ w = w' := by
  have h := TakeUint_any (some ⟨B, 0, none⟩) 2 [172, 2] (by simp) w (by
    intro k hk
    match k, hk with
    | 0, _ => exact ⟨B, 0, rfl, hB, h0⟩
    | 1, _ => exact ⟨B, 0, rfl, hB, h1⟩)
  rwa [take_ex] at h

set_option maxHeartbeats 4000000 in
set_option maxRecDepth 100000 in
theorem lives2_any (w : World) :
    Calls Try.prog 9 #[] w fun e w' => e = .returned (.bool true) ∧ Below w.heap.size w w' := by
  go_enter Try.func9, Try.ntmps9
  go_wp2_with fail
  go_fit (Record_ex (w.heap.size + 1) _ (reads_ex w.heap.size (w.heap.size + 1) _ (by simp; omega) (by simp) (by simp [go_sem]) (by simp [go_sem]) (by simp [go_sem]) (by simp [go_sem]) (by simp [go_sem]) (by simp [go_sem]) (by simp [go_sem]) (by simp [go_sem]) (by simp [go_sem]) (by simp [go_sem]) (by simp [go_sem]) (by simp [go_sem])))
  rintro e w2 ⟨v2, rfl, ho, hb, _⟩
  have HB2 := Lib.hid ((((Below.refl w.heap.size w).alloc (Nat.le_refl _) _).alloc (by simp) _).trans (hb.mono (by simp; omega)))
  have hz2 : w.heap.size ≤ w2.heap.size := HB2.out.size
  obtain ⟨a, c, rfl, _, _, hread⟩ := own_reads (l := [2, 0, 10, 2, 1, 1, 1, 97]) ho rfl
  clear ho hb
  have cv : (convert 23 9 (.slice a 8 c)).run Try.prog (w2.alloc (Obj.cells #[.int .u8 172, .int .u8 2] 5)) = .ok (.string ⟨#[2, 0, 10, 2, 1, 1, 1, 97]⟩) (w2.alloc (Obj.cells #[.int .u8 172, .int .u8 2] 5)) := conv_str a [2, 0, 10, 2, 1, 1, 1, 97] _ (hread.below ((Below.refl w2.heap.size w2).alloc (Nat.le_refl _) (Obj.cells #[.int .u8 172, .int .u8 2] 5))) c
  clear hread
  go_wp2_with fail
  go_fit (takeU_ex w2.heap.size _ (by simp [go_sem]) (by simp [go_sem]) (by simp))
  rintro e w3 ⟨rfl, rfl⟩
  go_wp2_with fail
  go_fit (PutInt_ex _)
  rintro e w4 ⟨v4, rfl, ho4, hb4, _⟩
  have HB4 := Lib.hid ((HB2.out.alloc hz2 (Obj.cells #[.int .u8 172, .int .u8 2] 5)).trans (hb4.mono (by simp; omega)))
  obtain ⟨a4, c4, rfl, _, _, hread4⟩ := own_reads (l := [3]) ho4 rfl
  clear ho4 hb4 cv
  have cv4 : (convert 23 9 (.slice a4 1 c4)).run Try.prog w4 = .ok (.string ⟨#[3]⟩) w4 := conv_str a4 [3] w4 hread4 c4
  clear hread4
  go_wp2_with fail
  go_ret
  exact ⟨rfl, HB4.out⟩
end Go.Proofs.Ytfnjemocekgncaa
