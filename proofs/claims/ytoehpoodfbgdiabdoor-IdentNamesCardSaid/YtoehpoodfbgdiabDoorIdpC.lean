/- The contract of the program's Path (ident). -/
import Derived.Test.YtoehpoodfbgdiabDoorIdpB
import Derived.Test.YtoehpoodfbgdiabDoorShelf
import Derived.Lib.Join
namespace Go.Proofs.YtoehpoodfbgdiabDoor
open Go.RowKit Go.Lib

theorem join_joinP : ∀ (L : List (List UInt8)), Lib.join L [47] = joinP L
  | [] => by simp [Lib.join_nil, joinP, slashP]
  | x :: r => by
    rw [Lib.join_cons]
    have : ∀ r : List (List UInt8), Lib.joinTail [47] r = slashP r := by
      intro r
      induction r with
      | nil => simp [Lib.joinTail, slashP]
      | cons y r ih => simp only [Lib.joinTail, slashP, List.map_cons, List.flatten_cons, List.flatMap_cons] at ih ⊢; rw [ih]; rfl
    rw [this]
    simp [joinP, slashP]
def lenS (L : List (List UInt8)) : Nat := (L.map List.length).sum
theorem lenS_snoc {L : List (List UInt8)} {i : Nat} (h : i < L.length) : lenS (L.take (i + 1)) = lenS (L.take i) + L[i].length := by
  unfold lenS
  rw [List.take_succ_eq_append_getElem h, List.map_append, List.sum_append]
  simp only [List.map_cons, List.map_nil, List.sum_cons, List.sum_nil, Nat.add_zero]
theorem slashP_len : ∀ L : List (List UInt8), (slashP L).length = L.length + lenS L
  | [] => by simp [slashP, lenS]
  | x :: r => by
    have ih := slashP_len r
    simp only [slashP, lenS, List.flatMap_cons, List.length_append, List.length_cons, List.map_cons, List.sum_cons] at ih ⊢
    omega
theorem joinP_len (L : List (List UInt8)) : (joinP L).length = L.length + lenS L - 1 := by
  unfold joinP
  rw [List.length_drop, slashP_len]
theorem lenS_le {L : List (List UInt8)} (h : L.all nameB = true) : lenS L ≤ 64 * L.length := by
  induction L with
  | nil => simp [lenS]
  | cons x r ih =>
    rw [List.all_cons, Bool.and_eq_true] at h
    have h1 := (nameB_len h.1).2
    have h2 := ih h.2
    simp only [lenS, List.map_cons, List.sum_cons, List.length_cons] at h2 ⊢
    omega
theorem all_take {L : List (List UInt8)} (h : L.all nameB = true) (i : Nat) : (L.take i).all nameB = true := by
  rw [List.all_eq_true] at h ⊢
  exact fun x hx => h x (List.mem_of_mem_take hx)
theorem joinS_any (v : Option Addr) (cap : Nat) (L : List (List UInt8)) (h0 : 0 < L.length) (hl : L.length ≤ 1099511627776) (hc : L.length ≤ cap) (hj : (joinP L).length ≤ 140737488355328) (w : World) (hr : ReadsStr w v L) :
    Calls Tryd.prog 30 #[.slice v L.length cap, .string ⟨#[47]⟩] w fun e w' => e = .returned (.string ⟨(joinP L).toArray⟩) ∧ Below w.heap.size w w' := by
  obtain ⟨b, off, rfl, hb, _⟩ := hr 0 h0
  have hm : ((L.map fun x => (⟨x.toArray⟩ : ByteArray)).map fun x => x.data.toList) = L := by rw [List.map_map]; simp [Function.comp_def]
  have h := Tryd.strings_Join b off cap (L.map fun x => (⟨x.toArray⟩ : ByteArray)) ⟨#[47]⟩ w (by
    intro j x hx
    rw [List.getElem?_map] at hx
    cases hL : L[j]? with
    | none => rw [hL] at hx; cases hx
    | some y =>
      rw [hL] at hx
      obtain rfl := Option.some.inj hx
      obtain ⟨hjl, rfl⟩ := List.getElem?_eq_some_iff.1 hL
      obtain ⟨b', off', e, _, hcell⟩ := hr j hjl
      cases e
      exact hcell) hb (by rw [List.length_map]; omega) (by rw [List.length_map]; exact hc) (by rw [hm]; show (Lib.join L [47]).length ≤ _; rw [join_joinP]; exact hj)
  rw [hm, List.length_map] at h
  rw [show Lib.join L (⟨#[47]⟩ : ByteArray).data.toList = joinP L from join_joinP L] at h
  exact h

set_option maxHeartbeats 4000000 in
set_option maxRecDepth 100000 in
theorem idPath_any (v : Option Addr) (cap : Nat) (L : List (List UInt8)) (hl : L.length ≤ 1099511627776) (hcap : L.length ≤ cap) (hsz : ∀ x, x ∈ L → x.length ≤ 9223372036854775000) (w : World) (hr : ReadsStr w v L) :
    Calls Tryd.prog 11 #[.slice v L.length cap] w fun e w' => e = .returned (.tuple #[.string ⟨(pathR L).1.toArray⟩, .int .i64 ((pathR L).2 : Nat)]) ∧ Below w.heap.size w w' := by
  have V := Lib.hid (idValid_any v cap L (by omega) hsz w hr)
  have HR := Lib.hid hr
  have HSZ := Lib.hid hsz
  cases hv : (decide (0 < L.length) && L.all nameB)
  · rw [hv] at V
    have HQ := Lib.hid (show pathR L = ([], 1) by
      unfold pathR
      by_cases h0 : L.length = 0
      · rw [if_pos h0]
      · rw [if_neg h0]
        have : decide (0 < L.length) = true := by simp; omega
        rw [this, Bool.true_and] at hv
        rw [hv]; rfl)
    clear hv hr hsz
    go_enter Tryd.func11, Tryd.ntmps11
    go_wp2_with fail
    go_fit V.out
    rintro e w1 ⟨rfl, hb⟩
    have B := Lib.hid hb
    clear hb
    go_wp2_with fail
    go_ret2
    exact ⟨by rw [HQ.out]; rfl, B.out⟩
  · rw [hv] at V
    rw [Bool.and_eq_true, decide_eq_true_eq] at hv
    obtain ⟨h0, hall⟩ := hv
    have HQ := Lib.hid (show pathR L = if 512 < (joinP L).length then ([], 3) else (joinP L, 0) by unfold pathR; rw [if_neg (by omega), if_pos hall])
    have HALL := Lib.hid hall
    have J := Lib.hid (fun (hj : (joinP L).length ≤ 512) w hr => joinS_any v cap L h0 hl hcap (by omega) w hr)
    have HJL := Lib.hid (joinP_len L)
    have HLL := Lib.hid (And.intro h0 hl)
    have l0 : (1 : Int) ≤ L.length ∧ (L.length : Int) ≤ 1099511627776 := by omega
    clear hr hsz hall hl hcap h0
    go_enter Tryd.func11, Tryd.ntmps11
    go_wp2_with fail
    go_fit V.out
    rintro e w1 ⟨rfl, hb⟩
    have B := Lib.hid hb
    have R1 := Lib.hid (HR.out.below hb)
    clear hb
    go_wp2_with fail
    go_loop [4, 15] (fun s4 s15 => ∃ i n : Nat, i ≤ L.length ∧ n ≤ 72057594037927936 ∧ s15 = .int .i64 i ∧ s4 = .int .i64 n ∧ Hid (n = L.length - 1 + lenS (L.take i))) (fun _ s15 => L.length - (RowKit.intOf s15).toNat)
    case atStart => exact ⟨0, L.length - 1, by omega, by have := HLL.out; omega, rfl, by have := HLL.out.1; congr 1; omega, Lib.hid (by simp [lenS])⟩
    case round =>
      obtain ⟨i, n, hi, hn, rfl, rfl, hsum⟩ := hrel
      by_cases hlt : i < L.length
      · obtain ⟨b, off, rfl, hb, hc⟩ := R1.out i hlt
        have hxl := (nameB_len (List.all_eq_true.1 HALL.out _ (List.getElem_mem hlt))).2
        have hsn := lenS_snoc hlt
        have hle := lenS_le (all_take HALL.out (i + 1))
        rw [List.length_take] at hle
        have hzs : (⟨L[i].toArray⟩ : ByteArray).size = L[i].length := by show L[i].toArray.size = _; simp
        have HN := Lib.hid (show n + L[i].length = L.length - 1 + lenS (L.take (i + 1)) by rw [hsn, hsum.out]; omega)
        have HNB := Lib.hid (show n + L[i].length ≤ 72057594037927936 by have := HN.out; have := HLL.out; omega)
        generalize L[i].length = m at hzs HN HNB hxl
        generalize (⟨L[i].toArray⟩ : ByteArray) = x at hc hzs
        clear hsn hle
        go_wp2_with fail
        exact ⟨⟨i + 1, n + m, by omega, HNB.out, by go_num, by go_num, HN⟩, by simp [RowKit.intOf]; omega⟩
      · obtain rfl : i = L.length := by omega
        have hlen : (joinP L).length = n := by
          have h1 := hsum.out
          have h2 := HJL.out
          have h3 := HLL.out.1
          rw [List.take_length] at h1
          omega
        by_cases h512 : 512 < n
        · have HF := Lib.hid (show pathR L = ([], 3) by rw [HQ.out, if_pos (by omega)])
          have g1 : (512 : Int) < (n : Int) := by omega
          clear h512 hlen
          go_wp2_with fail
          go_ret2
          exact ⟨by rw [HF.out]; rfl, B.out⟩
        · have HF := Lib.hid (show pathR L = (joinP L, 0) by rw [HQ.out, if_neg (by omega)])
          have J1 := Lib.hid (J.out (by omega) w1 R1.out)
          have g1 : ¬ (512 : Int) < (n : Int) := by omega
          clear h512 hlen
          go_wp2_with fail
          go_fit J1.out
          rintro e w2 ⟨rfl, hb⟩
          have B2 := Lib.hid (B.out.trans (hb.mono B.out.size))
          clear hb
          go_wp2_with fail
          go_ret2
          exact ⟨by rw [HF.out]; rfl, B2.out⟩
end Go.Proofs.YtoehpoodfbgdiabDoor
