/- Plain mathematics: how texts stand to each other; a window and a key ahead of others; no program, no conditions. -/
import Derived.Lib.Bytealg
import GoSem.Op.String
namespace Go.Proofs.Ythiofbohllmfbaa.Sh
open Go

/-- How two texts stand to each other. -/
abbrev less (a b : List UInt8) : Bool := Op.bytesLess a b
theorem less_irrefl : ∀ a : List UInt8, less a a = false
  | [] => rfl
  | a :: x => by
    have ih := less_irrefl x
    simp only [less, Op.bytesLess] at ih ⊢
    rw [ih]
    simp
theorem u8_lt {a b : UInt8} : a < b ↔ a.toNat < b.toNat := UInt8.lt_iff_toNat_lt
theorem less_cons (a b : UInt8) (x y : List UInt8) : less (a :: x) (b :: y) = true ↔ a.toNat < b.toNat ∨ (a = b ∧ less x y = true) := by
  simp only [less, Op.bytesLess, Bool.or_eq_true, Bool.and_eq_true, decide_eq_true_eq, beq_iff_eq, u8_lt]
theorem less_nil (a : List UInt8) : less a [] = false := by cases a <;> rfl
theorem less_trans : ∀ a b c : List UInt8, less a b = true → less b c = true → less a c = true
  | _, [], _, h, _ => by rw [less_nil] at h; cases h
  | _, _ :: _, [], _, h => by rw [less_nil] at h; cases h
  | [], _ :: _, _ :: _, _, _ => rfl
  | a :: x, b :: y, c :: z, h1, h2 => by
    rw [less_cons] at h1 h2 ⊢
    rcases h1 with h1 | ⟨rfl, h1⟩
    · rcases h2 with h2 | ⟨rfl, h2⟩
      · left; omega
      · left; exact h1
    · rcases h2 with h2 | ⟨rfl, h2⟩
      · left; exact h2
      · right; exact ⟨rfl, less_trans x y z h1 h2⟩
theorem less_or : ∀ a b : List UInt8, less a b = true ∨ a = b ∨ less b a = true
  | [], [] => Or.inr (Or.inl rfl)
  | [], _ :: _ => Or.inl rfl
  | _ :: _, [] => Or.inr (Or.inr rfl)
  | a :: x, b :: y => by
    rw [less_cons, less_cons]
    rcases Nat.lt_trichotomy a.toNat b.toNat with h | h | h
    · exact Or.inl (Or.inl h)
    · have he : a = b := UInt8.toNat_inj.1 h
      subst he
      rcases less_or x y with h1 | h1 | h1
      · exact Or.inl (Or.inr ⟨rfl, h1⟩)
      · exact Or.inr (Or.inl (by rw [h1]))
      · exact Or.inr (Or.inr (Or.inr ⟨rfl, h1⟩))
    · exact Or.inr (Or.inr (Or.inl h))
theorem less_asymm (a b : List UInt8) (h : less a b = true) : less b a = false := by
  cases h2 : less b a
  · rfl
  · have := less_trans a b a h h2
    rw [less_irrefl] at this
    cases this
/-- Is it the same text? -/
def eqB (x y : ByteArray) : Bool := x.data.toList == y.data.toList
theorem eqB_true (x y : ByteArray) : eqB x y = true ↔ x = y := by
  unfold eqB
  rw [beq_iff_eq]
  constructor
  · intro h
    apply ByteArray.ext
    have := congrArg List.toArray h
    simpa using this
  · intro h; rw [h]
theorem eqB_self (x : ByteArray) : eqB x x = true := (eqB_true x x).2 rfl
theorem beq_ba (x y : ByteArray) : (x.toList == y.toList) = eqB x y := by rw [ByteArray.toList_eq, ByteArray.toList_eq]; rfl
theorem ba_inj {a b : ByteArray} (h : a.data.toList = b.data.toList) : a = b := by
  apply ByteArray.ext
  have := congrArg List.toArray h
  simpa using this
/-- A window and a key ahead of others. -/
def plt (w1 : Int) (g1 : ByteArray) (w2 : Int) (g2 : ByteArray) : Bool := decide (w1 < w2) || (decide (w1 = w2) && less g1.data.toList g2.data.toList)
theorem plt_true (w1 : Int) (g1 : ByteArray) (w2 : Int) (g2 : ByteArray) : plt w1 g1 w2 g2 = true ↔ w1 < w2 ∨ (w1 = w2 ∧ less g1.data.toList g2.data.toList = true) := by
  unfold plt; simp
theorem plt_irrefl (w : Int) (g : ByteArray) : plt w g w g = false := by
  unfold plt; simp [less_irrefl]
theorem plt_trans {w1 w2 w3 : Int} {g1 g2 g3 : ByteArray} (h1 : plt w1 g1 w2 g2 = true) (h2 : plt w2 g2 w3 g3 = true) : plt w1 g1 w3 g3 = true := by
  rw [plt_true] at *
  rcases h1 with h1 | ⟨h1, h1'⟩ <;> rcases h2 with h2 | ⟨h2, h2'⟩
  · left; omega
  · left; omega
  · left; omega
  · right; exact ⟨by omega, less_trans _ _ _ h1' h2'⟩
theorem plt_asymm {w1 w2 : Int} {g1 g2 : ByteArray} (h : plt w1 g1 w2 g2 = true) : plt w2 g2 w1 g1 = false := by
  cases hc : plt w2 g2 w1 g1
  · rfl
  · have := plt_trans h hc; rw [plt_irrefl] at this; cases this
theorem plt_total (w1 w2 : Int) (g1 g2 : ByteArray) : plt w1 g1 w2 g2 = true ∨ (w1 = w2 ∧ g1 = g2) ∨ plt w2 g2 w1 g1 = true := by
  by_cases h : w1 < w2
  · left; rw [plt_true]; exact Or.inl h
  · by_cases h' : w2 < w1
    · right; right; rw [plt_true]; exact Or.inl h'
    · have e : w1 = w2 := by omega
      rcases less_or g1.data.toList g2.data.toList with h1 | h1 | h1
      · left; rw [plt_true]; exact Or.inr ⟨e, h1⟩
      · right; left; exact ⟨e, ba_inj h1⟩
      · right; right; rw [plt_true]; exact Or.inr ⟨e.symm, h1⟩
end Go.Proofs.Ythiofbohllmfbaa.Sh
