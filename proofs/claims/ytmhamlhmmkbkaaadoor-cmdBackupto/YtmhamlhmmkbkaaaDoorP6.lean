
-- Plain: the command, brought to one that a line means.
import Derived.Test.YtmhamlhmmkbkaaaDoorP5
namespace Go.Proofs.YtmhamlhmmkbkaaaDoor
set_option linter.unusedVariables false
set_option maxRecDepth 100000
set_option linter.unusedSimpArgs false
/-- undashed -/
def undL (s : ByteArray) : ByteArray := if dsh s then byB (120 :: byL s) else s
theorem undL_not (s : ByteArray) : dsh (undL s) = false := by
  unfold undL
  cases h : dsh s with
  | true => rw [if_pos rfl]; unfold dsh; rw [byL_byB]; rfl
  | false => rw [if_neg (by decide)]; exact h
theorem undL_size (s : ByteArray) : (undL s).size ≤ s.size + 1 := by
  unfold undL
  split
  · rw [← byL_size, byL_byB, List.length_cons, byL_size]; exact Nat.le_refl _
  · omega
def opM (c : Cm) : UInt8 := if known c.op = true then c.op else 116
def kdM (c : Cm) : Int := if c.kind = 2 then 2 else 0
def putM (c : Cm) : Bool := opM c == 114 || opM c == 113
def upM (c : Cm) : Bool := (c.up && opM c == 114) && !c.det
def thM (c : Cm) : Bool := (c.thin && putM c) && (kdM c != 2)
def quM (c : Cm) : Bool := c.qu && putM c
def daM (c : Cm) : Bool := c.dat && opM c == 120
def baM (c : Cm) : Bool := c.bare && (opM c == 100 || opM c == 109 || opM c == 113 || opM c == 114)
def poM (c : Cm) : Bool := (opM c == 109 || opM c == 114) && (c.wh == 1 || c.wh == 2)
def meantC (c : Cm) : Cm :=
  if c.prog = 1 then { cm0 with prog := 1, op := 115, det := c.det, arc := undL c.arc, nms := c.nms }
  else if poM c = true then ⟨0, opM c, c.vb, upM c, quM c, c.det, daM c, baM c, thM c, kdM c, c.wh, undL c.anc, c.arc, c.nms⟩
  else ⟨0, opM c, c.vb, upM c, quM c, c.det, daM c, baM c, thM c, kdM c, 0, ⟨#[]⟩, undL c.arc, c.nms⟩
theorem opM_known (c : Cm) : known (opM c) = true := by
  unfold opM
  split
  · assumption
  · rfl
theorem meant_mix (c : Cm) (wh : Int) (h : wh ≠ 0 → opM c = 109 ∨ opM c = 114) : mixL (opM c) wh (upM c) c.det (thM c) (kdM c) (daM c) (quM c) (baM c) [97] = [] := by
  unfold mixL
  rw [if_neg (by rintro ⟨a, b⟩; exact b (h a))]
  rw [if_neg (by
    rintro ⟨a, b⟩
    unfold upM at a
    simp only [Bool.and_eq_true, beq_iff_eq] at a
    exact b a.1.2)]
  rw [if_neg (by
    rintro ⟨a, b⟩
    unfold upM at a
    simp only [Bool.and_eq_true, Bool.not_eq_true'] at a
    rw [b] at a
    exact absurd a.2 (by decide))]
  have hput : putM c = true → (opM c = 114 ∨ opM c = 113) := fun e => by
    unfold putM at e
    simpa only [Bool.or_eq_true, beq_iff_eq] using e
  rw [if_neg (by
    rintro ⟨a, b⟩
    unfold thM at a
    simp only [Bool.and_eq_true] at a
    exact b (hput a.1.2))]
  rw [if_neg (by
    rintro ⟨a, b⟩
    unfold thM at a
    simp only [Bool.and_eq_true, bne_iff_ne] at a
    exact a.2 b)]
  rw [if_neg (by
    rintro ⟨a, b⟩
    unfold daM at a
    simp only [Bool.and_eq_true, beq_iff_eq] at a
    exact b a.2)]
  rw [if_neg (by
    rintro ⟨a, b⟩
    unfold quM at a
    simp only [Bool.and_eq_true] at a
    exact b (hput a.2))]
  rw [if_neg (by
    rintro ⟨a, b⟩
    unfold baM at a
    simp only [Bool.and_eq_true, Bool.or_eq_true, beq_iff_eq, or_assoc] at a
    exact b a.2)]
theorem kdM_ways (c : Cm) : kdM c = 0 ∨ kdM c = 2 := by
  unfold kdM
  split
  · exact .inr rfl
  · exact .inl rfl
theorem good_meant (c : Cm) : Good (meantC c) := by
  unfold meantC
  by_cases h1 : c.prog = 1
  · rw [if_pos h1]
    refine ⟨.inr rfl, rfl, fun _ => rfl, .inl rfl, (show (0 : Int) ≤ 0 by decide), (show (0 : Int) ≤ 2 by decide), fun _ => ⟨rfl, rfl, rfl, rfl, rfl, rfl, (show (0 : Int) ≠ 2 by decide), rfl⟩, ?_, fun _ => rfl, fun e => absurd rfl e, fun _ => undL_not _⟩
    unfold mixC mixL cm0
    cases c.det <;> rfl
  · rw [if_neg h1]
    have hk := opM_known c
    by_cases h2 : poM c = true
    · rw [if_pos h2]
      unfold poM at h2
      simp only [Bool.and_eq_true, Bool.or_eq_true, beq_iff_eq] at h2
      obtain ⟨a, b⟩ := h2
      exact ⟨.inl rfl, hk, fun e => absurd e (show ¬ (0 : Int) = 1 by decide), kdM_ways c, (show (0 : Int) ≤ c.wh by omega), (show c.wh ≤ (2 : Int) by omega), fun e => absurd e (show ¬ (0 : Int) = 1 by decide), meant_mix c c.wh (fun _ => a), fun e => absurd e (show ¬ c.wh = 0 by omega), fun _ => undL_not _, fun e => absurd e (show ¬ c.wh = 0 by omega)⟩
    · rw [if_neg h2]
      exact ⟨.inl rfl, hk, fun e => absurd e (show ¬ (0 : Int) = 1 by decide), kdM_ways c, (show (0 : Int) ≤ 0 by decide), (show (0 : Int) ≤ 2 by decide), fun e => absurd e (show ¬ (0 : Int) = 1 by decide), meant_mix c 0 (fun e => absurd rfl e), fun _ => rfl, fun e => absurd rfl e, fun _ => undL_not _⟩
theorem meant_nms (c : Cm) : (meantC c).nms = c.nms := by
  unfold meantC
  split
  · rfl
  · split <;> rfl
theorem meant_size (c : Cm) : (meantC c).anc.size ≤ c.anc.size + 1 ∧ (meantC c).arc.size ≤ c.arc.size + 1 := by
  have h1 := undL_size c.anc
  have h2 := undL_size c.arc
  have h3 : (⟨#[]⟩ : ByteArray).size = 0 := rfl
  unfold meantC
  split
  · exact ⟨(show (⟨#[]⟩ : ByteArray).size ≤ _ by omega), h2⟩
  · split
    · exact ⟨h1, Nat.le_succ _⟩
    · exact ⟨(show (⟨#[]⟩ : ByteArray).size ≤ _ by omega), h2⟩
end Go.Proofs.YtmhamlhmmkbkaaaDoor
