/- Contracts of octets.TakeString and of the document's. -/
import Derived.Test.YtfnjemocekgncaaOctD
namespace Go.Proofs.Ytfnjemocekgncaa
open Go.RowKit Go.Lib

/-- The string that bytes begin with, the length of its encoding, the error's number. -/
def takeS (l : List UInt8) : List UInt8 × Nat × Nat :=
  if (take l).2.2 ≠ 0 then ([], 0, (take l).2.2)
  else if l.length - (take l).2.1 < (take l).1 then ([], 0, 4)
  else ((l.drop (take l).2.1).take (take l).1, (take l).2.1 + (take l).1, 0)

/-- A list without an error is not empty. -/
theorem take_some (l : List UInt8) (h : (take l).2.2 = 0) : 0 < l.length := by
  cases l with
  | nil => simp [take, takeFrom] at h
  | cons b l => simp

theorem tk_sum (k u : Nat) : (k : Int) + (u : Int) = ((k + u : Nat) : Int) := (Int.natCast_add k u).symm
theorem ret3_sii {a a' : ByteArray} {b c b' c' : Int} (h1 : a = a') (h2 : b = b') (h3 : c = c') : Ending.returned (.tuple #[.string a, .int .i64 b, .int .i64 c]) = .returned (.tuple #[.string a', .int .i64 b', .int .i64 c']) := by rw [h1, h2, h3]

/-- Bytes that are read become the string of them. -/
theorem push_all : ∀ (l : List UInt8) (s : ByteArray), (l.map fun b => (b.toNat : Int)).foldl (fun r n => r.push (UInt8.ofNat n.toNat)) s = ⟨s.data ++ l.toArray⟩
  | [], s => by simp
  | b :: l, s => by
    simp only [List.map_cons, List.foldl_cons]
    rw [push_all l]
    simp [ByteArray.push]
theorem conv_str (v : Option Addr) (l : List UInt8) (w : World) (hr : ReadsBytes w v l) (cap : Nat) :
    (convert 23 9 (.slice v l.length cap)).run Try.prog w = .ok (.string ⟨l.toArray⟩) w := by
  rw [run_convert_bytes_string w 23 9 5 v l.length cap Try.underlying23 Try.underlying5 Try.underlying9]
  cases v with
  | none =>
    have hl : l = [] := by
      cases l with
      | nil => rfl
      | cons b l =>
        obtain ⟨_, _, h, _⟩ := hr 0 (by simp)
        cases h
    subst hl
    rfl
  | some a =>
    have hc := run_loadCells_list (P := Try.prog) (w := w) a (l.map fun b => Value.int .u8 (b.toNat : Int)) (by
      intro j u hj
      rw [List.getElem?_map] at hj
      cases hl : l[j]? with
      | none => rw [hl] at hj; cases hj
      | some b =>
        rw [hl] at hj
        obtain rfl := Option.some.inj hj
        obtain ⟨hjl, rfl⟩ := List.getElem?_eq_some_iff.1 hl
        obtain ⟨blk, off, e, _, hcell⟩ := hr j hjl
        obtain rfl := Option.some.inj e
        have ea : (⟨blk, off, none⟩ : Addr).add j = ⟨blk, off + j, none⟩ := by
          unfold Addr.add
          split
          · rename_i h; subst h; rfl
          · rfl
        rw [ea]
        exact hcell)
    rw [List.length_map] at hc
    rw [run_bytesToString w a l.length cap (l.map fun b => (b.toNat : Int)) (by rw [hc, List.map_map]; rfl), push_all]
    simp
theorem ReadsBytes.drop {w : World} {b off : Nat} {l : List UInt8} (h : ReadsBytes w (some ⟨b, off, none⟩) l) (k u : Nat) : ReadsBytes w (some ⟨b, off + k, none⟩) ((l.drop k).take u) := by
  intro j hj
  rw [List.length_take, List.length_drop] at hj
  obtain ⟨b', off', e, hlt, hc⟩ := h (k + j) (by omega)
  obtain ⟨rfl, rfl⟩ : b = b' ∧ off = off' := by cases e; exact ⟨rfl, rfl⟩
  refine ⟨b, off + k, rfl, hlt, ?_⟩
  rw [Nat.add_assoc, hc]
  simp

set_option maxHeartbeats 4000000 in
set_option maxRecDepth 100000 in
theorem TakeString_any (v : Option Addr) (cap : Nat) (l : List UInt8) (hlen : l.length ≤ cap) (hcap : cap ≤ 9223372036854775807) (w : World) (hr : ReadsBytes w v l) :
    Calls Try.prog 19 #[.slice v l.length cap] w fun e w' => e = .returned (.tuple #[.string ⟨(takeS l).1.toArray⟩, .int .i64 (takeS l).2.1, .int .i64 (takeS l).2.2]) ∧ w = w' := by
  have hT := TakeUint_any v cap l (by omega) w hr
  obtain ⟨h1, h2, h3⟩ := take_facts l
  have h4 := take_some l
  obtain ⟨s, hs⟩ : ∃ s, s = takeS l := ⟨_, rfl⟩
  rw [← hs]
  unfold takeS at hs
  obtain ⟨⟨u, k, e⟩, ht⟩ : ∃ t, t = take l := ⟨_, rfl⟩
  rw [← ht] at hT h1 h2 h3 h4 hs
  simp only at hT h1 h2 h3 h4 hs
  have HS := Lib.hid hs
  have HT := Lib.hid hT
  have HR := Lib.hid hr
  clear hT hr ht hs
  by_cases he : e = 0
  · have u1 : ((e : Int) != 0) = false := by rw [bne_eq_false_iff_eq]; omega
    have hl0 := h4 he
    have HE := Lib.hid he
    have b1 : (0 : Int) ≤ u ∧ (u : Int) ≤ 18446744073709551615 := by omega
    obtain ⟨b, off, hv, hb, hcell0⟩ := HR.out 0 hl0
    clear hcell0
    subst hv
    have h3' : (0 : Int) ≤ k ∧ (k : Int) ≤ l.length := by omega
    by_cases hu : l.length - k < u
    · have E := Lib.hid (show s = ([], 0, 4) by rw [HS.out, if_neg (by omega), if_pos hu])
      have u2 : decide (((l.length - k : Nat) : Int) < (u : Int)) = true := by simp; omega
      clear HS he h1 h2 h4 hl0
      go_enter Try.func19, Try.ntmps19
      go_wp2_with fail
      go_fit (HT.out)
      rintro e w1 ⟨rfl, rfl⟩
      go_wp2_with fail
      all_goals
        go_ret3
        exact ⟨ret3_sii (by rw [E.out]) (by rw [E.out]; rfl) (by rw [E.out]; rfl), rfl⟩
    · have E := Lib.hid (show s = ((l.drop k).take u, k + u, 0) by rw [HS.out, if_neg (by omega), if_neg hu])
      have hlu : ((l.drop k).take u).length = u := by rw [List.length_take, List.length_drop]; omega
      have cv := fun c => conv_str (some ⟨b, off + k, none⟩) ((l.drop k).take u) w (HR.out.drop k u) c
      rw [hlu] at cv
      have hu' : (u : Int) ≤ l.length - k := by omega
      by_cases hck : cap = k
      · have hu0 : u = 0 := by omega
        have cv0 : ∀ c, (convert 23 9 (.slice (some ⟨b, off, none⟩) 0 c)).run Try.prog w = .ok (.string ⟨#[]⟩) w := fun c => conv_str (some ⟨b, off, none⟩) [] w (fun k hk => by simp at hk) c
        have EL := Lib.hid (show (l.drop k).take u = [] by rw [hu0, List.take_zero])
        obtain rfl : k = l.length := by omega
        obtain rfl : cap = l.length := by omega
        subst hu0
        clear HS he h1 h2 h4 hl0 cv hlu b1 hu' hu hck h3' hlen h3
        go_enter Try.func19, Try.ntmps19
        go_wp2_with fail
        go_fit (HT.out)
        rintro e w1 ⟨rfl, rfl⟩
        go_wp2_with fail
        all_goals
          go_ret3
          exact ⟨ret3_sii (by rw [E.out, EL.out]) (by rw [E.out]; rfl) (by rw [E.out]; rfl), rfl⟩
      · clear HS he h1 h2 h4 hl0
        go_enter Try.func19, Try.ntmps19
        go_wp2_with fail
        go_fit (HT.out)
        rintro e w1 ⟨rfl, rfl⟩
        go_wp2_with fail
        go_ret3
        exact ⟨ret3_sii (by rw [E.out]) (by rw [E.out]; exact tk_sum _ _) (by rw [E.out]; rfl), rfl⟩
  · have u1 : ((e : Int) != 0) = true := by rw [bne_iff_ne]; omega
    have E := Lib.hid (show s = ([], 0, e) by rw [HS.out, if_pos he])
    clear HS he h1 h2 h3
    go_enter Try.func19, Try.ntmps19
    go_wp2_with fail
    go_fit (HT.out)
    rintro e w1 ⟨rfl, rfl⟩
    go_wp2_with fail
    go_ret3
    exact ⟨ret3_sii (by rw [E.out]) (by rw [E.out]; rfl) (by rw [E.out]), rfl⟩
end Go.Proofs.Ytfnjemocekgncaa
