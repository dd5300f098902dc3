/- Tokens in memory; the contract of the document's Same (pipelineref09). -/
import Derived.Test.YtoliiiijbdoliaaDoorLexA
import Derived.Deep.RegionHeld3
import Derived.Deep.QuietTactic
import Derived.BigQuiet
import Derived.Deep.DeepCutAuto
namespace Go.Proofs.YtoliiiijbdoliaaDoor
open Go.RowKit Go.Lib
set_option linter.unusedVariables false

/-- A token as it lies in memory. -/
structure Tm where
  kind : Int
  text : List UInt8
  pos : Int
def Tk.tm (t : Tk) : Tm := ⟨t.kind, t.text, (t.at_ : Int)⟩
/-- A slice of tokens reads as a list of them. -/
def ReadsK (w : World) (v : Option Addr) (l : List Tm) : Prop := ∀ j (_ : j < l.length), ∃ b off, v = some ⟨b, off, none⟩ ∧ b < w.heap.size ∧ w.cell? ⟨b, off + j * 3, none⟩ = some (.int .i64 l[j].kind) ∧ w.cell? ⟨b, off + j * 3 + 1, none⟩ = some (.string ⟨l[j].text.toArray⟩) ∧ w.cell? ⟨b, off + j * 3 + 2, none⟩ = some (.int .i64 l[j].pos)
theorem ReadsK.below {w w' : World} {v : Option Addr} {l : List Tm} (h : ReadsK w v l) (hb : Below w.heap.size w w') : ReadsK w' v l := by
  intro j hj
  obtain ⟨b, off, h1, h2, c0, c1, c2⟩ := h j hj
  exact ⟨b, off, h1, Nat.lt_of_lt_of_le h2 hb.size, (hb.cell (p := ⟨b, _, none⟩) h2).trans c0, (hb.cell (p := ⟨b, _, none⟩) h2).trans c1, (hb.cell (p := ⟨b, _, none⟩) h2).trans c2⟩
/-- Do tokens agree, with their indices or without? -/
def AgreeK (ix : Bool) (l m : List Tm) : Prop := l.length = m.length ∧ ∀ j (h : j < l.length) (g : j < m.length), l[j].kind = m[j].kind ∧ l[j].text = m[j].text ∧ (ix = true → l[j].pos = m[j].pos)
theorem AgreeK.rfl (ix : Bool) (l : List Tm) : AgreeK ix l l := ⟨_root_.rfl, fun _ _ _ => ⟨_root_.rfl, _root_.rfl, fun _ => _root_.rfl⟩⟩
set_option maxRecDepth 100000 in
set_option maxHeartbeats 4000000 in
theorem rSame_yes (ix : Bool) (l m : List Tm) (hag : AgreeK ix l m) (a b : Option Addr) (ca cb : Nat) (hlen : l.length ≤ 9223372036854775000) (w : World) (ha : ReadsK w a l) (hb : ReadsK w b m) :
    Calls Tryd.prog 14 #[.slice a l.length ca, .slice b m.length cb, .bool ix] w fun e w' => e = .returned (.bool true) ∧ Below w.heap.size w w' := by
  obtain ⟨hl, hg⟩ := hag
  have HA := Lib.hid ha
  have HB' := Lib.hid hb
  have HG := Lib.hid hg
  have HL := Lib.hid hl
  rw [← hl]
  clear ha hb hg hl
  go_enter Tryd.func14, Tryd.ntmps14
  go_wp2_with fail
  go_loopw [7] (fun s6 wr => ∃ j : Nat, j ≤ l.length ∧ s6 = .int .i64 (j : Int) ∧ Hid (Below w.heap.size w wr)) (fun s6 _ => l.length - (RowKit.intOf s6).toNat)
  case atStart => exact ⟨0, by omega, rfl, Lib.hid (Below.refl _ _)⟩
  case round =>
    obtain ⟨j, hj, rfl, HB⟩ := hrel
    by_cases hlt : j < l.length
    · obtain ⟨b1, off1, rfl, h2, c0, c1, c2⟩ := HA.out j hlt
      obtain ⟨b2, off2, rfl, h2', d0, d1, d2⟩ := HB'.out j (by rw [← HL.out]; exact hlt)
      obtain ⟨e1, e2, e3⟩ := HG.out j hlt (by rw [← HL.out]; exact hlt)
      rw [← e1] at d0
      rw [← e2] at d1
      have p0 := (HB.out.cell (p := ⟨b1, _, none⟩) h2).trans c0
      have p1 := (HB.out.cell (p := ⟨b1, _, none⟩) h2).trans c1
      have p2 := (HB.out.cell (p := ⟨b1, _, none⟩) h2).trans c2
      have y0 := (HB.out.cell (p := ⟨b2, _, none⟩) h2').trans d0
      have y1 := (HB.out.cell (p := ⟨b2, _, none⟩) h2').trans d1
      have y2 := (HB.out.cell (p := ⟨b2, _, none⟩) h2').trans d2
      obtain ⟨tx, htx⟩ : ∃ tx : ByteArray, tx = ⟨(l[j].text).toArray⟩ := ⟨_, rfl⟩
      rw [← htx] at p1 y1
      obtain ⟨kd, hkd⟩ : ∃ kd, kd = l[j].kind := ⟨_, rfl⟩
      rw [← hkd] at p0 y0
      have hq : (tx.toList == tx.toList) = true := beq_self_eq_true _
      have hq2 : (!(tx.toList == tx.toList)) = false := by rw [hq]; rfl
      have hk2 : (kd != kd) = false := bne_self_eq_false' _
      have hjI : (j : Int) < (l.length : Int) := by omega
      have hj0 : (0 : Int) ≤ (j : Int) := by omega
      clear c0 c1 c2 d0 d1 d2 e1 e2 htx hkd
      cases ix
      · clear e3
        go_wp2_with fail
        go_quiet (fail)
        have HBq := Lib.hid (below_drewN HB.out nq)
        go_wp2_with fail
        exact ⟨⟨j + 1, by omega, by go_num, HBq⟩, by simp [RowKit.intOf]; omega⟩
      · rw [← e3 rfl] at y2
        obtain ⟨ps, hps⟩ : ∃ ps, ps = l[j].pos := ⟨_, rfl⟩
        rw [← hps] at p2 y2
        have hp2 : (ps != ps) = false := bne_self_eq_false' _
        clear e3 hps
        go_wp2_with fail
        go_quiet (fail)
        have HBq := Lib.hid (below_drewN HB.out nq)
        go_wp2_with fail
        exact ⟨⟨j + 1, by omega, by go_num, HBq⟩, by simp [RowKit.intOf]; omega⟩
    · obtain rfl : j = l.length := by omega
      have hjI : ¬ (l.length : Int) < (l.length : Int) := by omega
      clear hlt
      go_wp2_with fail
      go_ret
      exact ⟨rfl, HB.out⟩
end Go.Proofs.YtoliiiijbdoliaaDoor
