/- What label's walks take of the listed variables; the contract of the program's parseLabel. -/
import Derived.Test.YtglckcenjnieaaaGreatDoorLaB
namespace Go.Proofs.YtglckcenjnieaaaGreatDoor
open Go.RowKit Go.Lib

def compA : Array Value := #[.string ⟨#[62, 61]⟩, .bool false, .bool true, .string ⟨#[60, 61]⟩, .bool true, .bool false, .string ⟨#[61]⟩, .bool false, .bool false]
/-- What the listed variables give. -/
def TabK (w : World) : Prop :=
  TabN w ∧ (∃ m, w.cell? ⟨1, 0, none⟩ = some (.int .i64 m)) ∧ w.var? Tryz.prog "pipeline/label.comparisons" = some compA
theorem cell_ltK {w : World} {p : Addr} {v : Value} (h : w.cell? p = some v) : p.block < w.heap.size := by
  apply Classical.byContradiction
  intro hn
  have : w.heap[p.block]? = none := Array.getElem?_eq_none (by omega)
  simp [World.cell?, this] at h
theorem TabK.below {w w' : World} (h : TabK w) (hb : Below w.heap.size w w') : TabK w' := by
  obtain ⟨h1, ⟨m, h2⟩, h3⟩ := h
  exact ⟨h1.below hb, ⟨m, (hb.cell (cell_ltK h2)).trans h2⟩, Joins.var_stays (g := 0) (by kernel_rfl) h3 hb (Nat.le_refl _)⟩
theorem below_dn {w w' : World} (h : ∃ n, w' = w.drewN n) : Below w.heap.size w w' := by
  obtain ⟨n, rfl⟩ := h
  exact below_drewN (Below.refl _ _) n
/-- Cut, at a separator. -/
theorem cut_any (s sep : ByteArray) (hs : s.size < 4294967281) (w : World) (hT : TabK w) :
    Calls Tryz.prog 44 #[.string s, .string sep] w fun e w' => e = .returned (.tuple #[.string ⟨(Lib.cut s.data.toList sep.data.toList).1.toArray⟩, .string ⟨(Lib.cut s.data.toList sep.data.toList).2.1.toArray⟩, .bool (Lib.cut s.data.toList sep.data.toList).2.2]) ∧ Below w.heap.size w w' := by
  obtain ⟨_, ⟨m, h2⟩, _⟩ := hT
  refine (Tryz.strings_Cut s sep m w hs h2).mono ?_
  rintro e w' ⟨rfl, h⟩
  exact ⟨rfl, below_dn h⟩

/-- A label's name and state, if it is one: of what stands before and behind its sign. -/
def labF (a b : List UInt8) (f : Bool) : Option (List UInt8 × Int) :=
  if nameB a = false then none
  else if f = false then some (a, -1)
  else match numL b with
    | some n => some (a, (n : Int))
    | none => none
def labP (l : List UInt8) : Option (List UInt8 × Int) := labF (Lib.cut l [61]).1 (Lib.cut l [61]).2.1 (Lib.cut l [61]).2.2
/-- What parseLabel hands back. -/
def LabR (o : Option (List UInt8 × Int)) (x : ByteArray) (n : Int) (ok : Bool) : Prop :=
  match o with
  | none => ok = false
  | some (a, b) => ok = true ∧ x = ⟨a.toArray⟩ ∧ n = b
theorem cut_len (l sep : List UInt8) : (Lib.cut l sep).1.length ≤ l.length ∧ (Lib.cut l sep).2.1.length ≤ l.length := by
  unfold Lib.cut
  split
  · simp only [List.length_take, List.length_drop]; omega
  · simp

set_option maxHeartbeats 1000000 in
theorem parseLabel_any (s : ByteArray) (hs : s.size ≤ 1048576) (w : World) (hT : TabK w) :
    Calls Tryz.prog 23 #[.string s] w fun e w' => ∃ (x : ByteArray) (n : Int) (ok : Bool), e = .returned (.tuple #[.string x, .int .i64 n, .bool ok]) ∧ LabR (labP s.data.toList) x n ok ∧ Below w.heap.size w w' := by
  have HT := Lib.hid hT
  have C := Lib.hid (fun w hT => cut_any s ⟨#[61]⟩ (by omega) w hT)
  have hl := cut_len s.data.toList [61]
  have hE : labP s.data.toList = labF (Lib.cut s.data.toList [61]).1 (Lib.cut s.data.toList [61]).2.1 (Lib.cut s.data.toList [61]).2.2 := rfl
  rw [show (⟨#[61]⟩ : ByteArray).data.toList = [61] from rfl] at C
  have hsz : s.data.toList.length = s.size := by rw [Array.length_toList]; rfl
  generalize labP s.data.toList = O at hE ⊢
  generalize (Lib.cut s.data.toList [61]).1 = a at C hl hE
  generalize (Lib.cut s.data.toList [61]).2.1 = b at C hl hE
  generalize (Lib.cut s.data.toList [61]).2.2 = f at C hE
  obtain ⟨x, hx⟩ : ∃ x : ByteArray, x = ⟨a.toArray⟩ := ⟨_, rfl⟩
  obtain ⟨y, hy⟩ : ∃ y : ByteArray, y = ⟨b.toArray⟩ := ⟨_, rfl⟩
  have hxa : x.data.toList = a := by rw [hx]
  have hyb : y.data.toList = b := by rw [hy]
  have hxs : x.size ≤ 1048576 := by rw [hx]; show a.toArray.size ≤ _; simp; omega
  have hys : y.size ≤ 1048576 := by rw [hy]; show b.toArray.size ≤ _; simp; omega
  rw [← hx, ← hy] at C
  have N := Lib.hid (fun w => idName_any x (by omega) w)
  rw [hxa] at N
  have HX := Lib.hid hx
  cases hn : nameB a
  · rw [hn] at N
    have HE := Lib.hid (show O = none by rw [hE]; unfold labF; rw [hn]; rfl)
    clear hE hn hx hy hxa hyb hl hT
    go_enter Tryz.func23, Tryz.ntmps23
    go_wp2_with fail
    go_fit (C.out _ HT.out)
    rintro e w1 ⟨rfl, hb⟩
    have B1 := Lib.hid hb
    clear hb
    go_wp2_with fail
    go_fit (N.out _)
    rintro e w2 ⟨rfl, hb⟩
    have B2 := Lib.hid (B1.out.trans (hb.mono B1.out.size))
    clear hb
    go_wp2_with fail
    exact bodyPost_ret (v := .tuple #[.string ⟨#[]⟩, .int .i64 0, .bool false]) (by simp [results, Tryz.results23, go_sem]) rfl ⟨⟨#[]⟩, 0, false, rfl, by rw [HE.out]; rfl, B2.out⟩
  rw [hn] at N
  cases f
  · have HE := Lib.hid (show O = some (a, -1) by rw [hE]; unfold labF; rw [hn]; rfl)
    clear hE hn hx hy hxa hyb hl hT
    go_enter Tryz.func23, Tryz.ntmps23
    go_wp2_with fail
    go_fit (C.out _ HT.out)
    rintro e w1 ⟨rfl, hb⟩
    have B1 := Lib.hid hb
    clear hb
    go_wp2_with fail
    go_fit (N.out _)
    rintro e w2 ⟨rfl, hb⟩
    have B2 := Lib.hid (B1.out.trans (hb.mono B1.out.size))
    clear hb
    go_wp2_with fail
    exact bodyPost_ret (v := .tuple #[.string x, .int .i64 (-1), .bool true]) (by simp [results, Tryz.results23, go_sem]) rfl ⟨x, -1, true, rfl, by rw [HE.out]; exact ⟨rfl, HX.out, rfl⟩, B2.out⟩
  cases hm : numL b with
  | none =>
    have HE := Lib.hid (show O = none by rw [hE]; unfold labF; rw [hn, hm]; rfl)
    have M := Lib.hid (fun w hT => parseNumber_no y (by omega) (by rw [hyb]; exact hm) w hT)
    clear hE hn hx hy hxa hyb hl hT hm
    go_enter Tryz.func23, Tryz.ntmps23
    go_wp2_with fail
    go_fit (C.out _ HT.out)
    rintro e w1 ⟨rfl, hb⟩
    have B1 := Lib.hid hb
    clear hb
    go_wp2_with fail
    go_fit (N.out _)
    rintro e w2 ⟨rfl, hb⟩
    have B2 := Lib.hid (B1.out.trans (hb.mono B1.out.size))
    clear hb
    go_wp2_with fail
    go_fit (M.out _ ((HT.out.below B2.out).1))
    rintro e w3 ⟨v, rfl, hb⟩
    have B3 := Lib.hid (B2.out.trans (hb.mono B2.out.size))
    clear hb
    go_wp2_with fail
    exact bodyPost_ret (v := .tuple #[.string x, .int .i64 v, .bool false]) (by simp [results, Tryz.results23, go_sem]) rfl ⟨x, v, false, rfl, by rw [HE.out]; rfl, B3.out⟩
  | some n =>
    have HE := Lib.hid (show O = some (a, (n : Int)) by rw [hE]; unfold labF; rw [hn, hm]; rfl)
    have M := Lib.hid (fun w hT => parseNumber_ok y (by omega) n (by rw [hyb]; exact hm) w hT)
    clear hE hn hx hy hxa hyb hl hT hm
    go_enter Tryz.func23, Tryz.ntmps23
    go_wp2_with fail
    go_fit (C.out _ HT.out)
    rintro e w1 ⟨rfl, hb⟩
    have B1 := Lib.hid hb
    clear hb
    go_wp2_with fail
    go_fit (N.out _)
    rintro e w2 ⟨rfl, hb⟩
    have B2 := Lib.hid (B1.out.trans (hb.mono B1.out.size))
    clear hb
    go_wp2_with fail
    go_fit (M.out _ ((HT.out.below B2.out).1))
    rintro e w3 ⟨rfl, hb⟩
    have B3 := Lib.hid (B2.out.trans (hb.mono B2.out.size))
    clear hb
    go_wp2_with fail
    exact bodyPost_ret (v := .tuple #[.string x, .int .i64 (n : Int), .bool true]) (by simp [results, Tryz.results23, go_sem]) rfl ⟨x, (n : Int), true, rfl, by rw [HE.out]; exact ⟨rfl, HX.out, rfl⟩, B3.out⟩
end Go.Proofs.YtglckcenjnieaaaGreatDoor
