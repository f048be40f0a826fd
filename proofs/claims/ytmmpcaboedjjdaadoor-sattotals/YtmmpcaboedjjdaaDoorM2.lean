/- Plain mathematics of decimal numerals: digits, their value, the numeral of a number and back; no program, no conditions. -/
import Derived.Lib.ItoaMem
import Derived.Lib.ParseIntBTie
import Derived.Lib.Strings
namespace Go.Proofs.YtmmpcaboedjjdaaDoor.Sat
open Go

/-- Is c a decimal digit? -/
def dgt (c : UInt8) : Bool := decide (48 ≤ c.toNat) && decide (c.toNat ≤ 57)
/-- What the digits l spell behind acc. -/
def valA (acc : Nat) (l : List UInt8) : Nat := l.foldl (fun a c => a * 10 + (c.toNat - 48)) acc
theorem valA_cons (acc : Nat) (c : UInt8) (r : List UInt8) : valA acc (c :: r) = valA (acc * 10 + (c.toNat - 48)) r := by unfold valA; rw [List.foldl_cons]
theorem valA_nil (acc : Nat) : valA acc [] = acc := by unfold valA; rw [List.foldl_nil]
def digs (l : List UInt8) : Bool := l.all dgt

theorem dgt_iff (c : UInt8) : dgt c = true ↔ 48 ≤ c.toNat ∧ c.toNat ≤ 57 := by simp [dgt]
theorem digs_cons (c : UInt8) (r : List UInt8) : digs (c :: r) = true ↔ (48 ≤ c.toNat ∧ c.toNat ≤ 57) ∧ digs r = true := by
  simp [digs, dgt]
theorem valA_ge (l : List UInt8) : ∀ acc : Nat, acc ≤ valA acc l := by
  induction l with
  | nil => intro acc; rw [valA_nil]; exact Nat.le_refl _
  | cons c r ih => intro acc; rw [valA_cons]; exact Nat.le_trans (by omega) (ih _)
theorem valA_append (l r : List UInt8) (acc : Nat) : valA acc (l ++ r) = valA (valA acc l) r := by unfold valA; rw [List.foldl_append]

theorem parseUint10_ok (l : List UInt8) : ∀ (acc : Nat), digs l = true → valA acc l < 18446744073709551616 → Lib.parseUint10 acc l = .ok (valA acc l) := by
  induction l with
  | nil => intro acc _ _; rw [Lib.parseUint10, valA_nil]
  | cons c r ih =>
    intro acc hd hv
    obtain ⟨hc, hr⟩ := (digs_cons c r).1 hd
    have hge := valA_ge r (acc * 10 + (c.toNat - 48))
    rw [valA_cons] at hv
    rw [valA_cons, Lib.parseUint10, if_pos hc, if_neg (by omega), if_neg (by omega)]
    exact ih _ hr hv
theorem parseUint10_range (l : List UInt8) : ∀ (acc : Nat), digs l = true → acc < 18446744073709551616 → 18446744073709551616 ≤ valA acc l → Lib.parseUint10 acc l = .range := by
  induction l with
  | nil => intro acc _ ha hv; rw [valA_nil] at hv; omega
  | cons c r ih =>
    intro acc hd ha hv
    obtain ⟨hc, hr⟩ := (digs_cons c r).1 hd
    rw [valA_cons] at hv
    rw [Lib.parseUint10, if_pos hc]
    by_cases h1 : 1844674407370955162 ≤ acc
    · rw [if_pos h1]
    · rw [if_neg h1]
      by_cases h2 : 18446744073709551616 ≤ acc * 10 + (c.toNat - 48)
      · rw [if_pos h2]
      · rw [if_neg h2]
        exact ih _ hr (by omega) hv

theorem parseMag_ok {l : List UInt8} (hn : l ≠ []) (hd : digs l = true) (hv : valA 0 l < 18446744073709551616) : Lib.parseMag l = .ok (valA 0 l) := by
  rw [Lib.parseMag, if_neg hn]; exact parseUint10_ok l 0 hd hv
theorem parseMag_range {l : List UInt8} (hn : l ≠ []) (hd : digs l = true) (hv : 18446744073709551616 ≤ valA 0 l) : Lib.parseMag l = .range := by
  rw [Lib.parseMag, if_neg hn]; exact parseUint10_range l 0 hd (by omega) hv

/-- Is l a number's form? -/
def formD (d : List UInt8) (minus : Bool) : Bool :=
  match d with
  | [] => false
  | c :: r => digs (c :: r) && (if c = 48 then r.isEmpty && !minus else true)
def cut (l : List UInt8) : List UInt8 × Bool :=
  match l with
  | [] => ([], false)
  | c :: r => if c = 45 then (r, true) else (c :: r, false)
def form (l : List UInt8) : Bool := formD (cut l).1 (cut l).2
/-- Read: the number and the error. -/
def read (l : List UInt8) : Int × Int :=
  if form l = true then
    if (cut l).2 = true then (if valA 0 (cut l).1 ≤ 9223372036854775808 then (-(valA 0 (cut l).1 : Int), 0) else (0, 3))
    else (if valA 0 (cut l).1 < 9223372036854775808 then ((valA 0 (cut l).1 : Int), 0) else (0, 3))
  else (0, 2)

theorem form_digs {l : List UInt8} (h : form l = true) : digs (cut l).1 = true ∧ (cut l).1 ≠ [] := by
  unfold form formD at h
  split at h
  · cases h
  · rename_i c r he
    rw [he]
    simp only [Bool.and_eq_true] at h
    exact ⟨h.1, by simp⟩

theorem cut_form (l : List UInt8) (h : form l = true) :
    (∃ r, l = 45 :: r ∧ cut l = (r, true) ∧ r ≠ [] ∧ digs r = true) ∨ (∃ c r, l = c :: r ∧ c.toNat ≠ 45 ∧ c.toNat ≠ 43 ∧ cut l = (l, false) ∧ digs l = true) := by
  obtain ⟨hd, hn⟩ := form_digs h
  cases l with
  | nil => exact absurd rfl hn
  | cons c r =>
    by_cases hc : c = 45
    · have e : cut (c :: r) = (r, true) := by simp [cut, hc]
      rw [e] at hd hn
      exact Or.inl ⟨r, by rw [hc], e, hn, hd⟩
    · have e : cut (c :: r) = (c :: r, false) := by simp [cut, hc]
      rw [e] at hd hn
      have := ((digs_cons c r).1 hd).1
      exact Or.inr ⟨c, r, rfl, by omega, by omega, e, hd⟩

theorem read_minus {l : List UInt8} {r : List UInt8} (h : form l = true) (hc : cut l = (r, true)) :
    (valA 0 r ≤ 9223372036854775808 → read l = (-(valA 0 r : Int), 0)) ∧ (¬ valA 0 r ≤ 9223372036854775808 → read l = (0, 3)) := by
  unfold read
  rw [if_pos h, hc]
  simp only [if_true]
  exact ⟨fun k => by rw [if_pos k], fun k => by rw [if_neg k]⟩
theorem read_plain {l : List UInt8} (h : form l = true) (hc : cut l = (l, false)) :
    (valA 0 l < 9223372036854775808 → read l = ((valA 0 l : Int), 0)) ∧ (¬ valA 0 l < 9223372036854775808 → read l = (0, 3)) := by
  unfold read
  rw [if_pos h, hc]
  simp only [Bool.false_eq_true, if_false]
  exact ⟨fun k => by rw [if_pos k], fun k => by rw [if_neg k]⟩

theorem atoi_minus_ok {r : List UInt8} {u : Nat} (h : Lib.parseMag r = .ok u) (hu : u ≤ 9223372036854775808) : Lib.atoiAll (45 :: r) = .ok (-(u : Int)) := by
  have e1 : ((45 : UInt8).toNat = 43 ∨ (45 : UInt8).toNat = 45) := by decide
  have e2 : (45 : UInt8).toNat = 45 := by decide
  simp only [Lib.atoiAll]
  rw [if_pos e1, h]
  simp only
  rw [if_neg (by omega), if_neg (by omega), if_pos e2]
theorem atoi_minus_big {r : List UInt8} {u : Nat} (h : Lib.parseMag r = .ok u) (hu : ¬ u ≤ 9223372036854775808) : Lib.atoiAll (45 :: r) = .range := by
  have e1 : ((45 : UInt8).toNat = 43 ∨ (45 : UInt8).toNat = 45) := by decide
  have e2 : (45 : UInt8).toNat = 45 := by decide
  simp only [Lib.atoiAll]
  rw [if_pos e1, h]
  simp only
  rw [if_neg (by omega), if_pos (by omega)]
theorem atoi_minus_range {r : List UInt8} (h : Lib.parseMag r = .range) : Lib.atoiAll (45 :: r) = .range := by
  have e1 : ((45 : UInt8).toNat = 43 ∨ (45 : UInt8).toNat = 45) := by decide
  simp only [Lib.atoiAll]
  rw [if_pos e1, h]
theorem atoi_plain_ok {c : UInt8} {r : List UInt8} {u : Nat} (h45 : c.toNat ≠ 45) (h43 : c.toNat ≠ 43) (h : Lib.parseMag (c :: r) = .ok u) (hu : u < 9223372036854775808) : Lib.atoiAll (c :: r) = .ok (u : Int) := by
  simp only [Lib.atoiAll]
  rw [if_neg (by omega), h]
  simp only
  rw [if_neg (by omega), if_neg (by omega), if_neg h45]
theorem atoi_plain_big {c : UInt8} {r : List UInt8} {u : Nat} (h45 : c.toNat ≠ 45) (h43 : c.toNat ≠ 43) (h : Lib.parseMag (c :: r) = .ok u) (hu : ¬ u < 9223372036854775808) : Lib.atoiAll (c :: r) = .range := by
  simp only [Lib.atoiAll]
  rw [if_neg (by omega), h]
  simp only
  rw [if_pos (by omega)]
theorem atoi_plain_range {c : UInt8} {r : List UInt8} (h45 : c.toNat ≠ 45) (h43 : c.toNat ≠ 43) (h : Lib.parseMag (c :: r) = .range) : Lib.atoiAll (c :: r) = .range := by
  simp only [Lib.atoiAll]
  rw [if_neg (by omega), h]

/-- Behind a right form the library's parse ends well, or at the range, as 'read' has it. -/
theorem parse_form (l : List UInt8) (h : form l = true) :
    (Lib.parseIntB 64 l = .ok (read l).1 ∧ read l = ((read l).1, 0)) ∨ (Lib.parseIntB 64 l = .range ∧ read l = (0, 3)) := by
  rw [Lib.parseIntB_64]
  rcases cut_form l h with ⟨r, rfl, hc, hn, hd⟩ | ⟨c, r, rfl, h45, h43, hc, hd⟩
  · have hr := read_minus h hc
    by_cases hw : valA 0 r < 18446744073709551616
    · have hm := parseMag_ok hn hd hw
      by_cases hv : valA 0 r ≤ 9223372036854775808
      · rw [hr.1 hv]; exact Or.inl ⟨atoi_minus_ok hm hv, rfl⟩
      · exact Or.inr ⟨atoi_minus_big hm hv, hr.2 hv⟩
    · exact Or.inr ⟨atoi_minus_range (parseMag_range hn hd (by omega)), hr.2 (by omega)⟩
  · have hr := read_plain h hc
    by_cases hw : valA 0 (c :: r) < 18446744073709551616
    · have hm := parseMag_ok (by simp) hd hw
      by_cases hv : valA 0 (c :: r) < 9223372036854775808
      · rw [hr.1 hv]; exact Or.inl ⟨atoi_plain_ok h45 h43 hm hv, rfl⟩
      · exact Or.inr ⟨atoi_plain_big h45 h43 hm hv, hr.2 hv⟩
    · exact Or.inr ⟨atoi_plain_range h45 h43 (parseMag_range (by simp) hd (by omega)), hr.2 (by omega)⟩

theorem read_noform {l : List UInt8} (h : form l = false) : read l = (0, 2) := by unfold read; rw [if_neg (by simp [h])]

end Go.Proofs.YtmmpcaboedjjdaaDoor.Sat
