/- Plain mathematics: how a place compares with an entry's; no program, no conditions. -/
import Derived.Test.YthiofbohllmfbaaM10
namespace Go.Proofs.Ythiofbohllmfbaa.Sh
open Go Cl Ch

def cmpI (a b : Int) : Int := if a < b then -1 else if b < a then 1 else 0
theorem cmpI_lt {a b : Int} (h : a < b) : cmpI a b = -1 := if_pos h
theorem cmpI_gt {a b : Int} (h : b < a) : cmpI a b = 1 := by unfold cmpI; rw [if_neg (by omega), if_pos h]
theorem cmpI_eq {a b : Int} (h : a = b) : cmpI a b = 0 := by unfold cmpI; rw [if_neg (by omega), if_neg (by omega)]
abbrev cmpL (a b : List UInt8) : Int := Lib.compareBytes a b
theorem cmpL_iff : ∀ a b : List UInt8, (less b a = true → cmpL a b = 1) ∧ (less a b = true → cmpL a b = -1) ∧ (a = b → cmpL a b = 0)
  | [], [] => ⟨fun h => (by rw [less_nil] at h; cases h), fun h => (by rw [less_nil] at h; cases h), fun _ => rfl⟩
  | [], _ :: _ => ⟨fun h => (by rw [less_nil] at h; cases h), fun _ => rfl, fun h => (by cases h)⟩
  | _ :: _, [] => ⟨fun _ => rfl, fun h => (by rw [less_nil] at h; cases h), fun h => (by cases h)⟩
  | a :: x, b :: y => by
    obtain ⟨i1, i2, i3⟩ := cmpL_iff x y
    rw [less_cons, less_cons]
    unfold cmpL Lib.compareBytes
    refine ⟨fun h => ?_, fun h => ?_, fun h => ?_⟩
    · rcases h with h | ⟨rfl, h⟩
      · rw [if_neg (by rw [u8_lt]; omega), if_pos (by rw [u8_lt]; omega)]
      · rw [if_neg (by rw [u8_lt]; omega), if_neg (by rw [u8_lt]; omega)]; exact i1 h
    · rcases h with h | ⟨rfl, h⟩
      · rw [if_pos (by rw [u8_lt]; omega)]
      · rw [if_neg (by rw [u8_lt]; omega), if_neg (by rw [u8_lt]; omega)]; exact i2 h
    · injection h with h1 h2
      subst h1
      rw [if_neg (by rw [u8_lt]; omega), if_neg (by rw [u8_lt]; omega)]; exact i3 h2
def cmpK (a b : ByteArray) : Int := cmpL a.data.toList b.data.toList
/-- How a place stands to an entry's. -/
def pcmp (w1 : Int) (k1 : ByteArray) (w2 : Int) (k2 : ByteArray) : Int := if cmpI w1 w2 = 0 then cmpK k1 k2 else cmpI w1 w2
theorem pcmp_gt {w1 w2 : Int} {k1 k2 : ByteArray} (h : plt w2 k2 w1 k1 = true) : pcmp w1 k1 w2 k2 = 1 := by
  unfold pcmp
  rw [plt_true] at h
  rcases h with h | ⟨rfl, h⟩
  · rw [cmpI_gt h, if_neg (by omega)]
  · rw [cmpI_eq rfl, if_pos rfl]; exact (cmpL_iff _ _).1 h
theorem pcmp_lt {w1 w2 : Int} {k1 k2 : ByteArray} (h : plt w1 k1 w2 k2 = true) : pcmp w1 k1 w2 k2 = -1 := by
  unfold pcmp
  rw [plt_true] at h
  rcases h with h | ⟨rfl, h⟩
  · rw [cmpI_lt h, if_neg (by omega)]
  · rw [cmpI_eq rfl, if_pos rfl]; exact (cmpL_iff _ _).2.1 h
theorem pcmp_eq {w1 w2 : Int} {k1 k2 : ByteArray} (h1 : w1 = w2) (h2 : k1 = k2) : pcmp w1 k1 w2 k2 = 0 := by
  subst h1 h2
  unfold pcmp
  rw [cmpI_eq rfl, if_pos rfl]; exact (cmpL_iff _ _).2.2 rfl
/-- Behind: above 0, and not otherwise. -/
theorem pcmp_pos (w1 w2 : Int) (k1 k2 : ByteArray) : decide (0 < pcmp w1 k1 w2 k2) = plt w2 k2 w1 k1 := by
  rcases plt_total w1 w2 k1 k2 with h | ⟨h1, h2⟩ | h
  · rw [pcmp_lt h, plt_asymm h]; rfl
  · rw [pcmp_eq h1 h2, h1, h2, plt_irrefl]; rfl
  · rw [pcmp_gt h, h]; rfl
theorem pcmp_zero (w1 w2 : Int) (k1 k2 : ByteArray) : decide (pcmp w1 k1 w2 k2 = 0) = (decide (w2 = w1) && eqB k2 k1) := by
  rcases plt_total w1 w2 k1 k2 with h | ⟨h1, h2⟩ | h
  · rw [pcmp_lt h]
    cases hc : (decide (w2 = w1) && eqB k2 k1)
    · rfl
    · rw [Bool.and_eq_true, decide_eq_true_eq, eqB_true] at hc
      obtain ⟨rfl, rfl⟩ := hc
      rw [plt_irrefl] at h; cases h
  · rw [pcmp_eq h1 h2, h1, h2, eqB_self]; simp
  · rw [pcmp_gt h]
    cases hc : (decide (w2 = w1) && eqB k2 k1)
    · rfl
    · rw [Bool.and_eq_true, decide_eq_true_eq, eqB_true] at hc
      obtain ⟨rfl, rfl⟩ := hc
      rw [plt_irrefl] at h; cases h
theorem pcmp_bound (w1 w2 : Int) (k1 k2 : ByteArray) : -1 ≤ pcmp w1 k1 w2 k2 ∧ pcmp w1 k1 w2 k2 ≤ 1 := by
  rcases plt_total w1 w2 k1 k2 with h | ⟨h1, h2⟩ | h
  · rw [pcmp_lt h]; decide
  · rw [pcmp_eq h1 h2]; decide
  · rw [pcmp_gt h]; decide
end Go.Proofs.Ythiofbohllmfbaa.Sh
