
namespace Go.Proofs.YtjpoifoejbabiaaDoor
/-- The calendar, by closed forms: days ahead of a year, days ahead of a month. -/
def isLeapB (y : Int) : Bool := decide (y % 4 = 0) && (decide (y % 100 ≠ 0) || decide (y % 400 = 0))
def yd (y : Int) : Int := if isLeapB y then 366 else 365
def byear (y : Int) : Int := 365 * (y - 1970) + (y - 1) / 4 - (y - 1) / 100 + (y - 1) / 400 - 477
def ml (y m : Int) : Int := if m = 2 then (if isLeapB y then 29 else 28) else if m = 4 ∨ m = 6 ∨ m = 9 ∨ m = 11 then 30 else 31
def lp (y : Int) : Int := if isLeapB y then 1 else 0
def bmon (y m : Int) : Int :=
  if m ≤ 1 then 0 else if m = 2 then 31 else if m = 3 then 59 + lp y else if m = 4 then 90 + lp y else if m = 5 then 120 + lp y else if m = 6 then 151 + lp y
  else if m = 7 then 181 + lp y else if m = 8 then 212 + lp y else if m = 9 then 243 + lp y else if m = 10 then 273 + lp y else if m = 11 then 304 + lp y else if m = 12 then 334 + lp y else 365 + lp y

theorem yd_is (y : Int) : yd y = 365 + lp y := by unfold yd lp; split <;> omega
theorem lp_01 (y : Int) : lp y = 0 ∨ lp y = 1 := by unfold lp; split <;> simp
theorem lp_byear (y : Int) : lp y = y / 4 - (y - 1) / 4 - (y / 100 - (y - 1) / 100) + (y / 400 - (y - 1) / 400) := by
  unfold lp isLeapB
  by_cases h4 : y % 4 = 0 <;> by_cases h100 : y % 100 = 0 <;> by_cases h400 : y % 400 = 0 <;> simp [h4, h100, h400] <;> omega
theorem byear_succ (y : Int) : byear (y + 1) = byear y + yd y := by
  rw [yd_is, lp_byear]; unfold byear; omega
theorem byear_400 (y k : Int) : byear (y + k * 400) = byear y + k * 146097 := by
  unfold byear; omega
theorem byear_0 : byear 1970 = 0 := by decide
theorem yd_pos (y : Int) : 365 ≤ yd y ∧ yd y ≤ 366 := by unfold yd; split <;> omega
theorem byear_ge (a b : Int) (h : a ≤ b) : byear a ≤ byear b := by unfold byear; omega
theorem ml_bmon (y m : Int) (h1 : 1 ≤ m) (h2 : m ≤ 12) : bmon y (m + 1) = bmon y m + ml y m := by
  have := lp_01 y
  have hl : (if isLeapB y then (29 : Int) else 28) = 28 + lp y := by unfold lp; split <;> omega
  obtain h | h | h | h | h | h | h | h | h | h | h | h : m = 1 ∨ m = 2 ∨ m = 3 ∨ m = 4 ∨ m = 5 ∨ m = 6 ∨ m = 7 ∨ m = 8 ∨ m = 9 ∨ m = 10 ∨ m = 11 ∨ m = 12 := by omega
  all_goals subst h; simp [bmon, ml]; try omega
theorem ml_pos (y m : Int) : 28 ≤ ml y m ∧ ml y m ≤ 31 := by unfold ml; repeat' split <;> try omega
theorem bmon_1 (y : Int) : bmon y 1 = 0 := by simp [bmon]
theorem bmon_13 (y : Int) : bmon y 13 = yd y := by rw [yd_is]; simp [bmon]
theorem bmon_mono (y a b : Int) (h : a ≤ b) : bmon y a ≤ bmon y b := by
  have := lp_01 y
  unfold bmon
  repeat' split
  all_goals omega

/-- The day (from 1 January 1970 on, from 0) that is the d-th of month m of year y. -/
def IsDay (day y m d : Int) : Prop := 1970 ≤ y ∧ 1 ≤ m ∧ m ≤ 12 ∧ 1 ≤ d ∧ d ≤ ml y m ∧ day = byear y + bmon y m + (d - 1)

theorem IsDay.inYear {day y m d : Int} (h : IsDay day y m d) : byear y ≤ day ∧ day < byear (y + 1) := by
  obtain ⟨_, h1, h2, h3, h4, h5⟩ := h
  have a := ml_bmon y m h1 h2
  have b := bmon_mono y (m + 1) 13 (by omega)
  have c := bmon_mono y 1 m h1
  rw [bmon_13] at b; rw [bmon_1] at c
  rw [byear_succ]; omega
theorem IsDay.uniq {day y m d y' m' d' : Int} (h : IsDay day y m d) (h' : IsDay day y' m' d') : y = y' ∧ m = m' ∧ d = d' := by
  have a := h.inYear
  have b := h'.inYear
  have hy : y = y' := by
    rcases Int.lt_trichotomy y y' with hlt | he | hlt
    · have := byear_ge (y + 1) y' (by omega); omega
    · exact he
    · have := byear_ge (y' + 1) y (by omega); omega
  subst hy
  obtain ⟨_, h1, h2, h3, h4, h5⟩ := h
  obtain ⟨_, k1, k2, k3, k4, k5⟩ := h'
  have e1 := ml_bmon y m h1 h2
  have e2 := ml_bmon y m' k1 k2
  have hm : m = m' := by
    rcases Int.lt_trichotomy m m' with hlt | he | hlt
    · have := bmon_mono y (m + 1) m' (by omega); omega
    · exact he
    · have := bmon_mono y (m' + 1) m (by omega); omega
  subst hm
  exact ⟨rfl, rfl, by omega⟩
/-- The day before. -/
theorem IsDay.prev {day y m d : Int} (h : IsDay day y m d) (h0 : 0 < day) :
    IsDay (day - 1) (if 1 < d then y else if 1 < m then y else y - 1) (if 1 < d then m else if 1 < m then m - 1 else 12) (if 1 < d then d - 1 else if 1 < m then ml y (m - 1) else 31) := by
  obtain ⟨h0', h1, h2, h3, h4, h5⟩ := h
  by_cases c1 : 1 < d
  · simp only [c1, if_true]; exact ⟨h0', h1, h2, by omega, by omega, by omega⟩
  · by_cases c2 : 1 < m
    · simp only [c1, c2, if_false, if_true]
      have e := ml_bmon y (m - 1) (by omega) (by omega)
      have p := ml_pos y (m - 1)
      rw [show m - 1 + 1 = m by omega] at e
      exact ⟨h0', by omega, by omega, by omega, by omega, by omega⟩
    · simp only [c1, c2, if_false]
      obtain rfl : m = 1 := by omega
      obtain rfl : d = 1 := by omega
      rw [bmon_1] at h5
      have e := byear_succ (y - 1)
      rw [show y - 1 + 1 = y by omega, ← bmon_13] at e
      have e2 := ml_bmon (y - 1) 12 (by omega) (by omega)
      have hy : 1970 < y := by
        rcases Int.lt_or_le 1970 y with h | h
        · exact h
        · obtain rfl : y = 1970 := by omega
          rw [byear_0] at h5; omega
      have e3 : ml (y - 1) 12 = 31 := by simp [ml]
      rw [e3] at e2
      rw [show (12 : Int) + 1 = 13 from rfl] at e2
      exact ⟨by omega, by omega, by omega, by omega, by rw [e3]; omega, by omega⟩
theorem IsDay.zero {y m d : Int} (h : IsDay 0 y m d) : y = 1970 ∧ m = 1 ∧ d = 1 :=
  h.uniq ⟨by omega, by omega, by omega, by omega, by decide, by decide⟩
end Go.Proofs.YtjpoifoejbabiaaDoor
