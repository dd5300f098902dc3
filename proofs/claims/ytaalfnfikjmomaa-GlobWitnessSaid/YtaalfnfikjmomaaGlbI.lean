/- Contracts of the document's Match and Literal (glob). -/
import Derived.Test.YtaalfnfikjmomaaGlbH
namespace Go.Proofs.Ytaalfnfikjmomaa
open Go.RowKit Go.Lib

theorem itemL_lens : ∀ (f : Nat) (l : List UInt8) (q : List (UInt8 × UInt8) × List UInt8), classF f l = some q → q.1.length + q.2.length < l.length
  | 0, _, _, h => by cases h
  | f + 1, l, q, h => by
    rw [classF] at h
    split at h
    · rename_i hh
      cases l with
      | nil => cases hh
      | cons a l => simp at h; subst h; simp
    · split at h
      · cases h
      · rename_i x r hx
        have := itemL_len hx
        cases hc : classF f r with
        | none => rw [hc] at h; cases h
        | some q2 =>
          rw [hc] at h
          have := itemL_lens f r q2 hc
          simp at h
          subst h
          simp
          omega
theorem elemL_items {l r : List UInt8} {e : GE} (h : elemL l = some (e, r)) : e.items.length ≤ l.length ∧ e.kind ≤ 5 ∧ (e.kind = 5 → e.items.length = 1) := by
  unfold elemL at h
  split at h
  · cases h
  · rename_i c l
    split at h
    · split at h
      · simp at h; obtain ⟨rfl, _⟩ := h; simp
      · simp at h; obtain ⟨rfl, _⟩ := h; simp
    · split at h
      · simp at h; obtain ⟨rfl, _⟩ := h; simp
      · split at h
        · split at h
          · cases h
          · rename_i its r2 hc
            have := itemL_lens _ _ _ hc
            split at h
            · cases h
            · simp at h; obtain ⟨rfl, _⟩ := h; simp at this ⊢; omega
        · split at h
          · cases l with
            | nil => cases h
            | cons d l => simp at h; obtain ⟨rfl, _⟩ := h; simp
          · simp at h; obtain ⟨rfl, _⟩ := h; simp
theorem elemsF_items : ∀ (f : Nat) (l : List UInt8) (q : List GE), elemsF f l = some q → ∀ x ∈ q, x.items.length ≤ l.length ∧ x.kind ≤ 5 ∧ (x.kind = 5 → x.items.length = 1)
  | 0, _, _, h => by cases h
  | f + 1, l, q, h => by
    rw [elemsF] at h
    split at h
    · simp at h; subst h; simp
    · split at h
      · cases h
      · rename_i x r hx
        have hl := elemL_len hx
        cases hc : elemsF f r with
        | none => rw [hc] at h; cases h
        | some q2 =>
          rw [hc] at h
          simp at h
          subst h
          intro y hy
          rcases List.mem_cons.1 hy with rfl | hy
          · exact elemL_items hx
          · have := elemsF_items f r q2 hc y hy
            exact ⟨by omega, this.2⟩
theorem parseP_items {l : List UInt8} {q : List GE} (h : parseP l = some q) : l.length ≤ 4096 ∧ ∀ x ∈ q, x.items.length ≤ 4096 ∧ x.kind ≤ 5 ∧ (x.kind = 5 → x.items.length = 1) := by
  unfold parseP at h
  split at h
  · cases h
  · refine ⟨by omega, fun x hx => ?_⟩
    have := elemsF_items _ _ _ h x hx
    exact ⟨by omega, this.2⟩
/-- Whether a pattern matches a string. -/
noncomputable def matchP (p s : List UInt8) : Bool := match parseP p with
  | none => false
  | some l => gmB l s
set_option maxHeartbeats 4000000 in
theorem refMatch_any (p s : ByteArray) (hs : s.size ≤ 1099511627776) (w : World) :
    Calls Try.prog 14 #[.string p, .string s] w fun e w' => e = .returned (.bool (matchP p.data.toList s.data.toList)) ∧ Below w.heap.size w w' := by
  have E := Lib.hid (refElems_any p w)
  cases he : parseP p.data.toList with
  | none =>
    have HV := Lib.hid (show matchP p.data.toList s.data.toList = false by unfold matchP; rw [he])
    rw [he] at E
    clear he hs
    go_enter Try.func14, Try.ntmps14
    go_wp2_with fail
    go_fit E.out
    rintro e w1 ⟨hb, h2⟩
    have B := Lib.hid hb
    simp only at h2
    subst h2
    clear hb
    go_wp2_with fail
    go_ret
    exact ⟨by rw [HV.out]; rfl, B.out⟩
  | some L =>
    have HV := Lib.hid (show matchP p.data.toList s.data.toList = gmB L s.data.toList by unfold matchP; rw [he])
    have HI := Lib.hid (fun x hx => ((parseP_items he).2 x hx).1)
    have M := Lib.hid (fun la lc w hL hr => refMatches_any la lc L s hs hL w hr HI.out)
    rw [he] at E
    clear he hs
    go_enter Try.func14, Try.ntmps14
    go_wp2_with fail
    go_fit E.out
    rintro e w1 ⟨hb, a, c, rfl, _, _, hl, hr⟩
    have B := Lib.hid (And.intro hb (And.intro hl hr))
    clear hb hl hr
    go_wp2_with fail
    go_fit (M.out _ _ _ B.out.2.1 B.out.2.2)
    rintro e w2 ⟨rfl, hb2⟩
    have B2 := Lib.hid (B.out.1.trans (hb2.mono B.out.1.size))
    clear hb2
    go_wp2_with fail
    go_ret
    exact ⟨by rw [HV.out]; rfl, B2.out⟩
end Go.Proofs.Ytaalfnfikjmomaa
