/- Plain mathematics of windows: where they begin and end, when they are closed, time that goes on; no program, no conditions. -/
import Derived.Test.YtchlndcdfaelmaaProg
namespace Go.Proofs.Ytchlndcdfaelmaa.Wi
open Go

def ok64 (x : Int) : Prop := -9223372036854775808 ≤ x ∧ x ≤ 9223372036854775807
def mayW (x d : Int) : Bool := decide (1 ≤ d) && decide (d ≤ 1000) && decide (0 ≤ x) && decide (x ≤ 1000000000000)
theorem mayW_true {x d : Int} : mayW x d = true ↔ (1 ≤ d ∧ d ≤ 1000) ∧ 0 ≤ x ∧ x ≤ 1000000000000 := by
  unfold mayW; simp only [Bool.and_eq_true, decide_eq_true_eq]; omega
theorem mayW_false {x d : Int} : mayW x d = false ↔ ¬ ((1 ≤ d ∧ d ≤ 1000) ∧ 0 ≤ x ∧ x ≤ 1000000000000) := by
  rw [← mayW_true]; cases mayW x d <;> simp
theorem prod_ge {x d : Int} (h0 : 0 ≤ x) (h1 : 1 ≤ d) : 0 ≤ x * d := Int.mul_nonneg h0 (by omega)
theorem prod_le {x d : Int} (h2 : x ≤ 1000000000000) (h1 : 1 ≤ d) (h3 : d ≤ 1000) : x * d ≤ 1000000000000000 := by
  have e1 : x * d ≤ 1000000000000 * d := Int.mul_le_mul_of_nonneg_right h2 (by omega)
  have e2 : (1000000000000 : Int) * d ≤ 1000000000000 * 1000 := Int.mul_le_mul_of_nonneg_left h3 (by decide)
  omega
def startW (x d : Int) : Int := if mayW x d = true then x * d else 0
def endW (x d : Int) : Int := if mayW x d = true then x * d + d else 0
def closedW (x d late now : Int) : Bool := mayW x d && decide (0 ≤ late) && decide (late ≤ 1000) && decide (x * d + d + late ≤ now)
def ofE (t d : Int) : Int := if d < 1 ∨ 1000 < d then 1 else if t < 0 ∨ 1000000000000 < t then 3 else 0
def ofW (t d : Int) : Int := if ofE t d = 0 then Int.tdiv t d else 0
def topT : Int := 4000000000000000
def tickT (now by' : Int) : Int := if by' < 0 then now else if topT ≤ by' ∨ topT - by' < now then topT else now + by'
theorem startW_t {x d : Int} (h : mayW x d = true) : startW x d = x * d := if_pos h
theorem startW_f {x d : Int} (h : mayW x d = false) : startW x d = 0 := if_neg (by rw [h]; decide)
theorem endW_t {x d : Int} (h : mayW x d = true) : endW x d = x * d + d := if_pos h
theorem endW_f {x d : Int} (h : mayW x d = false) : endW x d = 0 := if_neg (by rw [h]; decide)
theorem closed_iff {x d late now : Int} : closedW x d late now = true ↔ mayW x d = true ∧ 0 ≤ late ∧ late ≤ 1000 ∧ x * d + d + late ≤ now := by
  unfold closedW; simp only [Bool.and_eq_true, decide_eq_true_eq]; constructor
  · rintro ⟨⟨⟨h1, h2⟩, h3⟩, h4⟩; exact ⟨h1, h2, h3, h4⟩
  · rintro ⟨h1, h2, h3, h4⟩; exact ⟨⟨⟨h1, h2⟩, h3⟩, h4⟩
theorem startW_ok (x d : Int) : 0 ≤ startW x d ∧ startW x d ≤ 1000000000000000 := by
  cases h : mayW x d
  · rw [startW_f h]; decide
  · rw [startW_t h]
    obtain ⟨⟨h1, h2⟩, h3, h4⟩ := mayW_true.1 h
    exact ⟨prod_ge h3 h1, prod_le h4 h1 h2⟩
theorem endW_ok (x d : Int) : 0 ≤ endW x d ∧ endW x d ≤ 1000000000001000 := by
  cases h : mayW x d
  · rw [endW_f h]; decide
  · rw [endW_t h]
    obtain ⟨⟨h1, h2⟩, h3, h4⟩ := mayW_true.1 h
    have a := prod_ge h3 h1
    have b := prod_le h4 h1 h2
    omega
theorem ofE_arg {t d : Int} (h : d < 1 ∨ 1000 < d) : ofE t d = 1 := if_pos h
theorem ofE_range {t d : Int} (h : ¬ (d < 1 ∨ 1000 < d)) (h2 : t < 0 ∨ 1000000000000 < t) : ofE t d = 3 := by unfold ofE; rw [if_neg h, if_pos h2]
theorem ofE_ok {t d : Int} (h : ¬ (d < 1 ∨ 1000 < d)) (h2 : ¬ (t < 0 ∨ 1000000000000 < t)) : ofE t d = 0 := by unfold ofE; rw [if_neg h, if_neg h2]
theorem ofW_ok {t d : Int} (h : ofE t d = 0) : ofW t d = Int.tdiv t d := if_pos h
theorem ofW_bad {t d : Int} (h : ofE t d ≠ 0) : ofW t d = 0 := if_neg h
theorem ofE_zero {t d : Int} (h : ofE t d = 0) : (1 ≤ d ∧ d ≤ 1000) ∧ 0 ≤ t ∧ t ≤ 1000000000000 := by
  unfold ofE at h
  split at h
  · omega
  · split at h
    · omega
    · omega
theorem tdiv_spec {t d : Int} (h0 : 0 ≤ t) (h1 : 1 ≤ d) : 0 ≤ Int.tdiv t d ∧ Int.tdiv t d ≤ t ∧ Int.tdiv t d * d ≤ t ∧ t < Int.tdiv t d * d + d := by
  have e : Int.tdiv t d = t / d := Int.tdiv_eq_ediv_of_nonneg h0
  rw [e]
  have e1 := Int.mul_ediv_add_emod t d
  have e2 := Int.emod_nonneg t (show d ≠ 0 by omega)
  have e3 := Int.emod_lt_of_pos t (show 0 < d by omega)
  rw [Int.mul_comm] at e1
  have q0 : 0 ≤ t / d := Int.ediv_nonneg h0 (by omega)
  refine ⟨q0, ?_, by omega, by omega⟩
  have : t / d * 1 ≤ t / d * d := Int.mul_le_mul_of_nonneg_left h1 q0
  omega
theorem ofW_bound (t d : Int) : 0 ≤ ofW t d ∧ ofW t d ≤ 1000000000000 := by
  by_cases h : ofE t d = 0
  · rw [ofW_ok h]
    obtain ⟨⟨h1, h2⟩, h3, h4⟩ := ofE_zero h
    obtain ⟨a, b, _, _⟩ := tdiv_spec h3 h1
    omega
  · rw [ofW_bad h]; decide
theorem tick_ok {now by' : Int} (h1 : ok64 now) (h2 : ok64 by') : ok64 (tickT now by') := by
  unfold tickT topT ok64 at *
  split
  · omega
  · split <;> omega
theorem tick_mono {now by' : Int} (h : now ≤ 4000000000000000) : now ≤ tickT now by' := by
  unfold tickT topT
  split
  · omega
  · split <;> omega
/-- Its window is there, and holds it. -/
theorem one_in {t d : Int} (h : ofE t d = 0) : mayW (ofW t d) d = true ∧ startW (ofW t d) d ≤ t ∧ t < endW (ofW t d) d := by
  obtain ⟨⟨h1, h2⟩, h3, h4⟩ := ofE_zero h
  have hb := ofW_bound t d
  have hm : mayW (ofW t d) d = true := mayW_true.2 ⟨⟨h1, h2⟩, hb⟩
  refine ⟨hm, ?_⟩
  rw [startW_t hm, endW_t hm, ofW_ok h]
  obtain ⟨_, _, c1, c2⟩ := tdiv_spec h3 h1
  exact ⟨c1, c2⟩
theorem one_next {x d : Int} (h : mayW x d = true) (h2 : x < 1000000000000) : mayW (x + 1) d = true ∧ endW x d = startW (x + 1) d := by
  obtain ⟨q1, q2⟩ := mayW_true.1 h
  have hm : mayW (x + 1) d = true := mayW_true.2 ⟨q1, by omega⟩
  rw [endW_t h, startW_t hm, Int.add_mul, Int.one_mul]
  exact ⟨hm, rfl⟩
/-- No other window holds it. -/
theorem one_other {t d o : Int} (h : ofE t d = 0) (ho : 0 ≤ o ∧ o ≤ 1000000000000) (hne : o ≠ ofW t d) : t < startW o d ∨ endW o d ≤ t := by
  obtain ⟨⟨h1, h2⟩, h3, h4⟩ := ofE_zero h
  have hm : mayW o d = true := mayW_true.2 ⟨⟨h1, h2⟩, ho⟩
  rw [startW_t hm, endW_t hm]
  rw [ofW_ok h] at hne
  obtain ⟨c0, _, c1, c2⟩ := tdiv_spec h3 h1
  generalize Int.tdiv t d = q at *
  rcases Int.lt_or_gt_of_ne hne with hlt | hgt
  · right
    have : (o + 1) * d ≤ q * d := Int.mul_le_mul_of_nonneg_right (by omega) (by omega)
    rw [Int.add_mul, Int.one_mul] at this
    omega
  · left
    have : (q + 1) * d ≤ o * d := Int.mul_le_mul_of_nonneg_right (by omega) (by omega)
    rw [Int.add_mul, Int.one_mul] at this
    omega
theorem stays_later {x d late now later : Int} (h : closedW x d late now = true) (h2 : now ≤ later) : closedW x d late later = true := by
  rw [closed_iff] at *
  exact ⟨h.1, h.2.1, h.2.2.1, by omega⟩
theorem stays_ahead {x d late now : Int} (h : closedW x d late now = true) (h2 : x ≠ 0) : closedW (x - 1) d late now = true := by
  rw [closed_iff] at *
  obtain ⟨⟨q1, q2⟩, q3⟩ := mayW_true.1 h.1
  refine ⟨mayW_true.2 ⟨⟨q1, q2⟩, by omega⟩, h.2.1, h.2.2.1, ?_⟩
  rw [Int.sub_mul, Int.one_mul]
  omega
end Go.Proofs.Ytchlndcdfaelmaa.Wi
