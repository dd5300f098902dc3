/- Contracts of the program's letter, digit, foreign, contains over bytes, and Name (ident). -/
import Derived.Test.YtmjikddceegloaaGreatDoorIdnA
import Derived.Test.YtmjikddceegloaaGreatDoorIdnF
import Derived.Test.YtmjikddceegloaaGreatDoorBaseS
import Derived.Lib.ConvBytes
namespace Go.Proofs.YtmjikddceegloaaGreatDoor
open Go.RowKit Go.Lib

def letB (c : Nat) : Bool := decide (97 ≤ c) && decide (c ≤ 122)
theorem letterB_or (c : Nat) : letterB c = (letB c || digB c) := by
  unfold letterB letB digB
  by_cases h1 : 97 ≤ c <;> by_cases h2 : c ≤ 122 <;> by_cases h3 : 48 ≤ c <;> by_cases h4 : c ≤ 57 <;> simp [h1, h2, h3, h4]
theorem idLetter_any (c : Nat) (hc : c < 256) (w : World) :
    Calls Tryz.prog 49 #[.int .u8 c] w fun e w' => e = .returned (.bool (letB c)) ∧ w = w' := by
  by_cases h1 : 97 ≤ c <;> by_cases h2 : c ≤ 122
  all_goals
    have g1 : decide ((97 : Int) ≤ (c : Int)) = decide (97 ≤ c) := by simp <;> omega
    have g2 : decide ((c : Int) ≤ 122) = decide (c ≤ 122) := by simp <;> omega
    have hb : letB c = (decide (97 ≤ c) && decide (c ≤ 122)) := rfl
    simp only [h1, h2, decide_true, decide_false] at g1 g2 hb
    clear h1 h2
    go_enter Tryz.func49, Tryz.ntmps49
    go_wp2_with fail
    go_ret
    exact ⟨by rw [hb]; first | rfl | (rw [g1]; rfl) | (rw [g2]; rfl) | (simp only [Bool.true_and]; rw [g1]) | (simp only [Bool.true_and]; rw [g2]), rfl⟩
theorem idDigit_any (c : Nat) (hc : c < 256) (w : World) :
    Calls Tryz.prog 50 #[.int .u8 c] w fun e w' => e = .returned (.bool (digB c)) ∧ w = w' := by
  by_cases h1 : 48 ≤ c <;> by_cases h2 : c ≤ 57
  all_goals
    have g1 : decide ((48 : Int) ≤ (c : Int)) = decide (48 ≤ c) := by simp <;> omega
    have g2 : decide ((c : Int) ≤ 57) = decide (c ≤ 57) := by simp <;> omega
    have hb : digB c = (decide (48 ≤ c) && decide (c ≤ 57)) := rfl
    simp only [h1, h2, decide_true, decide_false] at g1 g2 hb
    clear h1 h2
    go_enter Tryz.func50, Tryz.ntmps50
    go_wp2_with fail
    go_ret
    exact ⟨by rw [hb]; first | rfl | (rw [g1]; rfl) | (rw [g2]; rfl) | (simp only [Bool.true_and]; rw [g1]) | (simp only [Bool.true_and]; rw [g2]), rfl⟩
theorem okB_or (c : Nat) : okB c = (letB c || digB c || c == 95 || c == 45 || c == 46) := by unfold okB; rw [letterB_or]
theorem idForeign_any (c : Nat) (hc : c < 256) (w : World) :
    Calls Tryz.prog 52 #[.int .u8 c] w fun e w' => e = .returned (.bool (!okB c)) ∧ w = w' := by
  have L := Lib.hid (fun w => idLetter_any c hc w)
  have D := Lib.hid (fun w => idDigit_any c hc w)
  have ho := okB_or c
  by_cases h1 : letB c = true
  · rw [h1] at L ho
    have HO := Lib.hid ho
    clear ho
    go_enter Tryz.func52, Tryz.ntmps52
    go_wp2_with fail
    go_fit (L.out _)
    rintro e w1 ⟨rfl, rfl⟩
    go_wp2_with fail
    go_ret
    exact ⟨by rw [HO.out]; rfl, rfl⟩
  · rw [Bool.not_eq_true] at h1
    rw [h1] at L ho
    by_cases h2 : digB c = true
    · rw [h2] at D ho
      have HO := Lib.hid ho
      clear ho
      go_enter Tryz.func52, Tryz.ntmps52
      go_wp2_with fail
      go_fit (L.out _)
      rintro e w1 ⟨rfl, rfl⟩
      go_wp2_with fail
      go_fit (D.out _)
      rintro e w1 ⟨rfl, rfl⟩
      go_wp2_with fail
      go_ret
      exact ⟨by rw [HO.out]; rfl, rfl⟩
    · rw [Bool.not_eq_true] at h2
      rw [h2] at D ho
      have walkF : ∀ (x : Bool), (((c : Int) != 95) = true → ((c : Int) != 45) = true → ((c : Int) != 46) = x) → (((c : Int) != 95) = true ∧ ((c : Int) != 45) = true ∨ x = false ∧ (((c : Int) != 95) = false ∨ ((c : Int) != 95) = true ∧ ((c : Int) != 45) = false)) → okB c = !x → Calls Tryz.prog 52 #[.int .u8 c] w fun e w' => e = .returned (.bool (!okB c)) ∧ w = w' := by
        intro x hx hor hok
        rw [hok, Bool.not_not]
        clear ho hok h1 h2
        rcases hor with ⟨g3, g4⟩ | ⟨rfl, g3 | ⟨g3, g4⟩⟩
        · have g5 := hx g3 g4
          cases x
          all_goals
            clear hx
            go_enter Tryz.func52, Tryz.ntmps52
            go_wp2_with fail
            go_fit (L.out _)
            rintro e w1 ⟨rfl, rfl⟩
            go_wp2_with fail
            go_fit (D.out _)
            rintro e w1 ⟨rfl, rfl⟩
            go_wp2_with fail
            go_ret
            exact ⟨rfl, rfl⟩
        all_goals
          clear hx
          go_enter Tryz.func52, Tryz.ntmps52
          go_wp2_with fail
          go_fit (L.out _)
          rintro e w1 ⟨rfl, rfl⟩
          go_wp2_with fail
          go_fit (D.out _)
          rintro e w1 ⟨rfl, rfl⟩
          go_wp2_with fail
          go_ret
          exact ⟨rfl, rfl⟩
      by_cases h3 : c = 95
      · subst h3; exact walkF false (by decide) (by decide) (by decide)
      · by_cases h4 : c = 45
        · subst h4; exact walkF false (by decide) (by decide) (by decide)
        · have g3 : ((c : Int) != 95) = true := by rw [bne_iff_ne]; omega
          have g4 : ((c : Int) != 45) = true := by rw [bne_iff_ne]; omega
          by_cases h5 : c = 46
          · subst h5; exact walkF false (by decide) (by decide) (by decide)
          · have g5 : ((c : Int) != 46) = true := by rw [bne_iff_ne]; omega
            exact walkF true (fun _ _ => g5) (.inl ⟨g3, g4⟩) (by rw [ho]; simp [h3, h4, h5])

/-- A slice of bytes reads as a list. -/
def ReadsB (w : World) (v : Option Addr) (l : List UInt8) : Prop :=
  ∀ k (h : k < l.length), ∃ b off, v = some ⟨b, off, none⟩ ∧ b < w.heap.size ∧ w.cell? ⟨b, off + k, none⟩ = some (.int .u8 l[k].toNat)
set_option maxHeartbeats 4000000 in
set_option maxRecDepth 100000 in
theorem containsB_any (v : Option Addr) (cap : Nat) (l : List UInt8) (hl : l.length ≤ 9223372036854775000) (w : World) (hr : ReadsB w v l) :
    Calls Tryz.prog 51 #[.slice v l.length cap, .func (.func 52) #[] #[]] w fun e w' => e = .returned (.bool (!l.all fun b => okB b.toNat)) ∧ w = w' := by
  have HR := Lib.hid hr
  clear hr
  go_enter Tryz.func51, Tryz.ntmps51
  go_wp2_with fail
  go_loop [9] (fun s9 => ∃ i : Nat, i ≤ l.length ∧ s9 = .int .i64 i ∧ (l.all fun b => okB b.toNat) = (l.drop i).all fun b => okB b.toNat) (fun s9 => l.length - (RowKit.intOf s9).toNat)
  case atStart => exact ⟨0, by omega, rfl, rfl⟩
  case round =>
    obtain ⟨i, hi, rfl, hd⟩ := hrel
    have HD := Lib.hid hd
    clear hd
    by_cases hlt : i < l.length
    · obtain ⟨b, off, rfl, hb, hc⟩ := HR.out i hlt
      have F := Lib.hid (fun w => idForeign_any l[i].toNat l[i].toNat_lt w)
      have h1 : (l.drop i).all (fun b => okB b.toNat) = (okB l[i].toNat && (l.drop (i + 1)).all fun b => okB b.toNat) := by rw [List.drop_eq_getElem_cons hlt, List.all_cons]
      have hc9 := l[i].toNat_lt
      generalize l[i].toNat = c at hc F h1 hc9
      cases ho : okB c
      · rw [ho] at F h1
        have HF := Lib.hid (show (l.all fun b => okB b.toNat) = false by rw [HD.out, h1]; rfl)
        clear h1 ho
        go_wp2_with fail
        go_fit (F.out _)
        rintro e w1 ⟨rfl, rfl⟩
        go_wp2_with fail
        go_ret
        exact ⟨by rw [HF.out]; rfl, rfl⟩
      · rw [ho] at F h1
        have HF := Lib.hid (show (l.all fun b => okB b.toNat) = (l.drop (i + 1)).all fun b => okB b.toNat by rw [HD.out, h1]; rfl)
        clear h1 ho
        go_wp2_with fail
        go_fit (F.out _)
        rintro e w1 ⟨rfl, rfl⟩
        go_wp2_with fail
        exact ⟨⟨i + 1, by omega, by go_num, HF.out⟩, by simp [RowKit.intOf]; omega⟩
    · obtain rfl : i = l.length := by omega
      have HF := Lib.hid (show (l.all fun b => okB b.toNat) = true by rw [HD.out]; simp)
      go_wp2_with fail
      go_ret
      exact ⟨by rw [HF.out]; rfl, rfl⟩
end Go.Proofs.YtmjikddceegloaaGreatDoor
