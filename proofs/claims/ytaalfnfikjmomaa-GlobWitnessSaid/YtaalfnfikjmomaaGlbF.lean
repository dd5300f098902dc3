/- Contracts of the document's Valid, many and fits (glob). -/
import Derived.Test.YtaalfnfikjmomaaGlbE
namespace Go.Proofs.Ytaalfnfikjmomaa
open Go.RowKit Go.Lib

theorem refValid_any (s : ByteArray) (w : World) :
    Calls Try.prog 12 #[.string s] w fun e w' => e = .returned (.int .i64 (validP s.data.toList : Nat)) ∧ Below w.heap.size w w' := by
  by_cases hbig : 4096 < s.size
  · have HP := Lib.hid (show validP s.data.toList = 3 by unfold validP; rw [if_pos (by rw [lenB]; exact hbig)])
    have h0 : (4096 : Int) < (s.size : Int) := by omega
    clear hbig
    go_enter Try.func12, Try.ntmps12
    go_wp2_with fail
    go_ret
    exact ⟨by rw [HP.out]; rfl, Below.refl _ _⟩
  have E := Lib.hid (refElems_any s w)
  have hp : parseP s.data.toList = elemsL s.data.toList := by unfold parseP; rw [if_neg (by rw [lenB]; exact hbig)]
  have hv : validP s.data.toList = if (elemsL s.data.toList).isSome then 0 else 5 := by unfold validP; rw [if_neg (by rw [lenB]; exact hbig)]
  rw [hp] at E
  have h0 : ¬ (4096 : Int) < (s.size : Int) := by omega
  cases he : elemsL s.data.toList with
  | none =>
    have HV := Lib.hid (show validP s.data.toList = 5 by rw [hv, he]; rfl)
    rw [he] at E
    clear hp hv he hbig
    go_enter Try.func12, Try.ntmps12
    go_wp2_with fail
    go_fit E.out
    rintro e w1 ⟨hb, h2⟩
    have B := Lib.hid hb
    simp only at h2
    subst h2
    clear hb
    go_wp2_with fail
    go_ret
    exact ⟨by rw [HV.out]; rfl, B.out⟩
  | some L =>
    have HV := Lib.hid (show validP s.data.toList = 0 by rw [hv, he]; rfl)
    rw [he] at E
    clear hp hv he hbig
    go_enter Try.func12, Try.ntmps12
    go_wp2_with fail
    go_fit E.out
    rintro e w1 ⟨hb, a, c, rfl, _⟩
    have B := Lib.hid hb
    clear hb
    go_wp2_with fail
    go_ret
    exact ⟨by rw [HV.out]; rfl, B.out⟩

set_option maxHeartbeats 1000000 in
theorem refMany_any (x : GE) (hx : x.kind ≤ 5) (v : Value) (w : World) (hv : ∃ iv l ic, v = .slice iv l ic) :
    Calls Try.prog 39 #[.agg #[.int .i64 (x.kind : Nat), v]] w fun e w' => e = .returned (.bool (manyB x)) ∧ Below w.heap.size w w' := by
  obtain ⟨iv, l, ic, rfl⟩ := hv
  have B := Lib.hid ((Below.refl w.heap.size w).alloc (Nat.le_refl _) (Obj.cells #[.int .i64 (x.kind : Nat), .slice iv l ic] 53))
  obtain ⟨k, its⟩ := x
  simp only at hx
  rcases (show k = 0 ∨ k = 1 ∨ k = 2 ∨ k = 3 ∨ k = 4 ∨ k = 5 by omega) with rfl | rfl | rfl | rfl | rfl | rfl
  all_goals
    go_enter Try.func39, Try.ntmps39
    go_wp2_with fail
    go_ret
    exact ⟨rfl, B.out⟩

def Cells2 (w : World) (b : Nat) (x y : Value) : Prop := w.cell? ⟨b, 0, none⟩ = some x ∧ w.cell? ⟨b, 1, none⟩ = some y
theorem fits_lit {x : GE} {c : UInt8} (h1 : x.kind = 1) : fitsB x c = true := by unfold fitsB; simp [h1]
theorem fits_slash {x : GE} {c : UInt8} (h1 : x.kind ≠ 1) (h5 : x.kind ≠ 5) (hc : c = 47) : fitsB x c = false := by unfold fitsB; simp [h1, h5, hc]
theorem fits_star {x : GE} {c : UInt8} (h : x.kind = 2 ∨ x.kind = 3) (hc : c ≠ 47) : fitsB x c = true := by
  unfold fitsB
  rcases h with h | h <;> simp [h, hc]
theorem fits_items {x : GE} {c : UInt8} (h1 : x.kind ≠ 1) (h2 : x.kind ≠ 2) (h3 : x.kind ≠ 3) (h : x.kind = 5 ∨ c ≠ 47) : fitsB x c = inItems x.items c := by
  have e1 : (x.kind == 1) = false := by simpa using h1
  have e2 : (x.kind == 2) = false := by simpa using h2
  have e3 : (x.kind == 3) = false := by simpa using h3
  have e4 : (x.kind == 5 || c != 47) = true := by rcases h with h | h <;> simp [h]
  unfold fitsB
  rw [e1, e2, e3, e4]
  rfl
theorem inItems_drop (l : List (UInt8 × UInt8)) (c : UInt8) (i : Nat) (h : i < l.length) : inItems (l.drop i) c = ((decide (l[i].1.toNat ≤ c.toNat) && decide (c.toNat ≤ l[i].2.toNat)) || inItems (l.drop (i + 1)) c) := by
  rw [List.drop_eq_getElem_cons h]
  rfl
set_option maxHeartbeats 4000000 in
set_option maxRecDepth 100000 in
theorem refFits_items (x : GE) (c : UInt8) (hx : x.kind ≤ 5) (h1 : x.kind ≠ 1) (h2 : x.kind ≠ 2) (h3 : x.kind ≠ 3) (hc : x.kind = 5 ∨ c ≠ 47) (iv : Option Addr) (ic : Nat) (hl : x.items.length ≤ 4096) (S : Nat → Prop) (w : World) (hr : ReadsI S w iv x.items) :
    Calls Try.prog 40 #[.agg #[.int .i64 (x.kind : Nat), .slice iv x.items.length ic], .int .u8 c.toNat] w fun e w' => e = .returned (.bool (fitsB x c)) ∧ Below w.heap.size w w' := by
  have hv := fits_items h1 h2 h3 hc
  obtain ⟨k, its⟩ := x
  simp only at hx h1 h2 h3 hc hl hr hv ⊢
  have B := Lib.hid ((Below.refl w.heap.size w).alloc (Nat.le_refl _) (Obj.cells #[.int .i64 (k : Nat), .slice iv its.length ic] 53))
  have R := Lib.hid (hr.below B.out)
  have HV := Lib.hid hv
  have c9 : (0 : Int) ≤ (c.toNat : Int) ∧ (c.toNat : Int) ≤ 255 := by have := c.toNat_lt; omega
  have l0 : (its.length : Int) ≤ 4096 := by omega
  have HRW := Lib.hid hr
  have n47 : k ≠ 5 → ((c.toNat : Int) == 47) = false := by
    intro h
    rcases hc with e | e
    · exact absurd e h
    · rw [beq_eq_false_iff_ne]; intro e2; exact e (UInt8.toNat_inj.1 (by show c.toNat = 47; omega))
  have tw0 := (TwoAt.new w 53 (.int .i64 (k : Nat)) (.slice iv its.length ic)).cell0
  have tw1 := (TwoAt.new w 53 (.int .i64 (k : Nat)) (.slice iv its.length ic)).cell1
  clear hv hr hl
  rcases (show k = 0 ∨ k = 4 ∨ k = 5 by omega) with rfl | rfl | rfl
  · have n47 := n47 (by decide)
    go_enter Try.func40, Try.ntmps40
    go_wp2_with fail
    go_loop [5] (fun s5 => ∃ i : Nat, i ≤ its.length ∧ s5 = .int .i64 (i : Int) ∧ inItems its c = inItems (its.drop i) c) (fun s5 => its.length - (RowKit.intOf s5).toNat)
    case atStart => exact ⟨0, by omega, rfl, rfl⟩
    case round =>
      obtain ⟨i, hi, rfl, he⟩ := hrel
      have HE := Lib.hid he
      clear he
      by_cases hlt : i < its.length
      · obtain ⟨b, rfl, _, hb, d1, d2⟩ := HRW.out i hlt
        rw [Nat.mul_comm] at d1 d2
        have HD := Lib.hid (inItems_drop its c i hlt)
        have i0 : (0 : Int) ≤ i ∧ (i : Int) < (its.length : Int) := by omega
        have lo9 := its[i].1.toNat_lt
        have hi9 := its[i].2.toNat_lt
        obtain ⟨lo, hlo⟩ : ∃ lo, lo = its[i].1.toNat := ⟨_, rfl⟩
        obtain ⟨hi', hhi⟩ : ∃ hi', hi' = its[i].2.toNat := ⟨_, rfl⟩
        rw [← hlo] at d1 HD lo9
        rw [← hhi] at d2 HD hi9
        obtain ⟨cn, hcn⟩ : ∃ cn, cn = c.toNat := ⟨_, rfl⟩
        rw [← hcn] at HD
        have HCN := Lib.hid hcn
        clear hlo hhi hlt
        by_cases p1 : lo ≤ cn
        · by_cases p2 : cn ≤ hi'
          · have HF := Lib.hid (show fitsB ⟨0, its⟩ c = true by rw [HV.out, HE.out, HD.out]; simp [p1, p2])
            have g1 : (lo : Int) ≤ (c.toNat : Int) := by omega
            have g2 : (c.toNat : Int) ≤ (hi' : Int) := by omega
            clear hcn p1 p2
            go_wp2_with fail
            go_ret
            exact ⟨by rw [HF.out]; rfl, B.out⟩
          · have HF := Lib.hid (show inItems its c = inItems (its.drop (i + 1)) c by rw [HE.out, HD.out]; simp [p1, p2])
            have g1 : (lo : Int) ≤ (c.toNat : Int) := by omega
            have g2 : ¬ (c.toNat : Int) ≤ (hi' : Int) := by omega
            clear hcn p1 p2
            go_wp2_with fail
            go_round
            case rel => exact ⟨i + 1, by omega, by go_num, HF.out⟩
            case measure => simp [RowKit.intOf]; omega
        · have HF := Lib.hid (show inItems its c = inItems (its.drop (i + 1)) c by rw [HE.out, HD.out]; simp [p1])
          have g1 : ¬ (lo : Int) ≤ (c.toNat : Int) := by omega
          clear hcn p1
          go_wp2_with fail
          go_round
          case rel => exact ⟨i + 1, by omega, by go_num, HF.out⟩
          case measure => simp [RowKit.intOf]; omega
      · obtain rfl : i = its.length := by omega
        have HF := Lib.hid (show fitsB ⟨0, its⟩ c = false by rw [HV.out, HE.out]; simp [inItems])
        clear hlt
        go_wp2_with fail
        go_ret
        exact ⟨by rw [HF.out]; rfl, B.out⟩
  · have n47 := n47 (by decide)
    go_enter Try.func40, Try.ntmps40
    go_wp2_with fail
    go_loop [5] (fun s5 => ∃ i : Nat, i ≤ its.length ∧ s5 = .int .i64 (i : Int) ∧ inItems its c = inItems (its.drop i) c) (fun s5 => its.length - (RowKit.intOf s5).toNat)
    case atStart => exact ⟨0, by omega, rfl, rfl⟩
    case round =>
      obtain ⟨i, hi, rfl, he⟩ := hrel
      have HE := Lib.hid he
      clear he
      by_cases hlt : i < its.length
      · obtain ⟨b, rfl, _, hb, d1, d2⟩ := HRW.out i hlt
        rw [Nat.mul_comm] at d1 d2
        have HD := Lib.hid (inItems_drop its c i hlt)
        have i0 : (0 : Int) ≤ i ∧ (i : Int) < (its.length : Int) := by omega
        have lo9 := its[i].1.toNat_lt
        have hi9 := its[i].2.toNat_lt
        obtain ⟨lo, hlo⟩ : ∃ lo, lo = its[i].1.toNat := ⟨_, rfl⟩
        obtain ⟨hi', hhi⟩ : ∃ hi', hi' = its[i].2.toNat := ⟨_, rfl⟩
        rw [← hlo] at d1 HD lo9
        rw [← hhi] at d2 HD hi9
        obtain ⟨cn, hcn⟩ : ∃ cn, cn = c.toNat := ⟨_, rfl⟩
        rw [← hcn] at HD
        have HCN := Lib.hid hcn
        clear hlo hhi hlt
        by_cases p1 : lo ≤ cn
        · by_cases p2 : cn ≤ hi'
          · have HF := Lib.hid (show fitsB ⟨4, its⟩ c = true by rw [HV.out, HE.out, HD.out]; simp [p1, p2])
            have g1 : (lo : Int) ≤ (c.toNat : Int) := by omega
            have g2 : (c.toNat : Int) ≤ (hi' : Int) := by omega
            clear hcn p1 p2
            go_wp2_with fail
            go_ret
            exact ⟨by rw [HF.out]; rfl, B.out⟩
          · have HF := Lib.hid (show inItems its c = inItems (its.drop (i + 1)) c by rw [HE.out, HD.out]; simp [p1, p2])
            have g1 : (lo : Int) ≤ (c.toNat : Int) := by omega
            have g2 : ¬ (c.toNat : Int) ≤ (hi' : Int) := by omega
            clear hcn p1 p2
            go_wp2_with fail
            go_round
            case rel => exact ⟨i + 1, by omega, by go_num, HF.out⟩
            case measure => simp [RowKit.intOf]; omega
        · have HF := Lib.hid (show inItems its c = inItems (its.drop (i + 1)) c by rw [HE.out, HD.out]; simp [p1])
          have g1 : ¬ (lo : Int) ≤ (c.toNat : Int) := by omega
          clear hcn p1
          go_wp2_with fail
          go_round
          case rel => exact ⟨i + 1, by omega, by go_num, HF.out⟩
          case measure => simp [RowKit.intOf]; omega
      · obtain rfl : i = its.length := by omega
        have HF := Lib.hid (show fitsB ⟨4, its⟩ c = false by rw [HV.out, HE.out]; simp [inItems])
        clear hlt
        go_wp2_with fail
        go_ret
        exact ⟨by rw [HF.out]; rfl, B.out⟩
  · clear n47
    go_enter Try.func40, Try.ntmps40
    go_wp2_with fail
    go_loop [5] (fun s5 => ∃ i : Nat, i ≤ its.length ∧ s5 = .int .i64 (i : Int) ∧ inItems its c = inItems (its.drop i) c) (fun s5 => its.length - (RowKit.intOf s5).toNat)
    case atStart => exact ⟨0, by omega, rfl, rfl⟩
    case round =>
      obtain ⟨i, hi, rfl, he⟩ := hrel
      have HE := Lib.hid he
      clear he
      by_cases hlt : i < its.length
      · obtain ⟨b, rfl, _, hb, d1, d2⟩ := HRW.out i hlt
        rw [Nat.mul_comm] at d1 d2
        have HD := Lib.hid (inItems_drop its c i hlt)
        have i0 : (0 : Int) ≤ i ∧ (i : Int) < (its.length : Int) := by omega
        have lo9 := its[i].1.toNat_lt
        have hi9 := its[i].2.toNat_lt
        obtain ⟨lo, hlo⟩ : ∃ lo, lo = its[i].1.toNat := ⟨_, rfl⟩
        obtain ⟨hi', hhi⟩ : ∃ hi', hi' = its[i].2.toNat := ⟨_, rfl⟩
        rw [← hlo] at d1 HD lo9
        rw [← hhi] at d2 HD hi9
        obtain ⟨cn, hcn⟩ : ∃ cn, cn = c.toNat := ⟨_, rfl⟩
        rw [← hcn] at HD
        have HCN := Lib.hid hcn
        clear hlo hhi hlt
        by_cases p1 : lo ≤ cn
        · by_cases p2 : cn ≤ hi'
          · have HF := Lib.hid (show fitsB ⟨5, its⟩ c = true by rw [HV.out, HE.out, HD.out]; simp [p1, p2])
            have g1 : (lo : Int) ≤ (c.toNat : Int) := by omega
            have g2 : (c.toNat : Int) ≤ (hi' : Int) := by omega
            clear hcn p1 p2
            go_wp2_with fail
            go_ret
            exact ⟨by rw [HF.out]; rfl, B.out⟩
          · have HF := Lib.hid (show inItems its c = inItems (its.drop (i + 1)) c by rw [HE.out, HD.out]; simp [p1, p2])
            have g1 : (lo : Int) ≤ (c.toNat : Int) := by omega
            have g2 : ¬ (c.toNat : Int) ≤ (hi' : Int) := by omega
            clear hcn p1 p2
            go_wp2_with fail
            go_round
            case rel => exact ⟨i + 1, by omega, by go_num, HF.out⟩
            case measure => simp [RowKit.intOf]; omega
        · have HF := Lib.hid (show inItems its c = inItems (its.drop (i + 1)) c by rw [HE.out, HD.out]; simp [p1])
          have g1 : ¬ (lo : Int) ≤ (c.toNat : Int) := by omega
          clear hcn p1
          go_wp2_with fail
          go_round
          case rel => exact ⟨i + 1, by omega, by go_num, HF.out⟩
          case measure => simp [RowKit.intOf]; omega
      · obtain rfl : i = its.length := by omega
        have HF := Lib.hid (show fitsB ⟨5, its⟩ c = false by rw [HV.out, HE.out]; simp [inItems])
        clear hlt
        go_wp2_with fail
        go_ret
        exact ⟨by rw [HF.out]; rfl, B.out⟩
end Go.Proofs.Ytaalfnfikjmomaa
