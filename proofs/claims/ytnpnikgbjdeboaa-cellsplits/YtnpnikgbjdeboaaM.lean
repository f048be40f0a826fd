/- Plain mathematics of sums that know when they ran over: no program, no conditions. -/
namespace Go.Proofs.Ytnpnikgbjdeboaa.Sat

/-- b added to a. -/
def add (a : Int) (ao : Bool) (b : Int) (bo : Bool) : Int × Bool :=
  if ao = true then (a, true) else if bo = true then (b, true)
  else if 0 < a ∧ 9223372036854775807 - a < b then (9223372036854775807, true)
  else if a < 0 ∧ b < -9223372036854775808 - a then (-9223372036854775808, true)
  else (a + b, false)

def aboveB (a b : Int) : Bool := decide (0 < a ∧ 9223372036854775807 - a < b)
def belowB (a b : Int) : Bool := decide (a < 0 ∧ b < -9223372036854775808 - a)

theorem add_a (a b : Int) (bo : Bool) : add a true b bo = (a, true) := by simp [add]
theorem add_b (a b : Int) : add a false b true = (b, true) := by simp [add]
theorem add_above (a b : Int) (h : 0 < a ∧ 9223372036854775807 - a < b) : add a false b false = (9223372036854775807, true) := by
  simp only [add, Bool.false_eq_true, if_false]; rw [if_pos h]
theorem add_below (a b : Int) (h : a < 0 ∧ b < -9223372036854775808 - a) : add a false b false = (-9223372036854775808, true) := by
  simp only [add, Bool.false_eq_true, if_false]; rw [if_neg (by omega), if_pos h]
theorem add_plain (a b : Int) (h : ¬ (0 < a ∧ 9223372036854775807 - a < b)) (h' : ¬ (a < 0 ∧ b < -9223372036854775808 - a)) : add a false b false = (a + b, false) := by
  simp only [add, Bool.false_eq_true, if_false]; rw [if_neg h, if_neg h']

theorem add_bounds (a : Int) (ao : Bool) (b : Int) (bo : Bool) (ha0 : -9223372036854775808 ≤ a) (ha1 : a ≤ 9223372036854775807) (hb0 : -9223372036854775808 ≤ b) (hb1 : b ≤ 9223372036854775807) :
    -9223372036854775808 ≤ (add a ao b bo).1 ∧ (add a ao b bo).1 ≤ 9223372036854775807 := by
  cases ao
  · cases bo
    · by_cases h : 0 < a ∧ 9223372036854775807 - a < b
      · rw [add_above _ _ h]; simp
      · by_cases h' : a < 0 ∧ b < -9223372036854775808 - a
        · rw [add_below _ _ h']; simp
        · rw [add_plain _ _ h h']; simp only; omega
    · rw [add_b]; exact ⟨hb0, hb1⟩
  · rw [add_a]; exact ⟨ha0, ha1⟩

end Go.Proofs.Ytnpnikgbjdeboaa.Sat
