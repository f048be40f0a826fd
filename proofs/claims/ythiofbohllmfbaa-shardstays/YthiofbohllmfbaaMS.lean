/- Plain mathematics of sums that know when they ran over: added, their texts and what is read from them; no program, no conditions. -/
import Derived.Lib.ItoaMem
import Derived.Lib.ParseIntBTie
import Derived.Lib.Strings
import Derived.Lib.ItoaLen
namespace Go.Proofs.Ythiofbohllmfbaa.Sat
open Go

/-- b added to a. -/
def add (a : Int) (ao : Bool) (b : Int) (bo : Bool) : Int × Bool :=
  if ao = true then (a, true) else if bo = true then (b, true)
  else if 0 < a ∧ 9223372036854775807 - a < b then (9223372036854775807, true)
  else if a < 0 ∧ b < -9223372036854775808 - a then (-9223372036854775808, true)
  else (a + b, false)

def aboveB (a b : Int) : Bool := decide (0 < a ∧ 9223372036854775807 - a < b)
def belowB (a b : Int) : Bool := decide (a < 0 ∧ b < -9223372036854775808 - a)

theorem add_a (a b : Int) (bo : Bool) : add a true b bo = (a, true) := by simp [add]
theorem add_b (a b : Int) : add a false b true = (b, true) := by simp [add]
theorem add_above (a b : Int) (h : 0 < a ∧ 9223372036854775807 - a < b) : add a false b false = (9223372036854775807, true) := by
  simp only [add, Bool.false_eq_true, if_false]; rw [if_pos h]
theorem add_below (a b : Int) (h : a < 0 ∧ b < -9223372036854775808 - a) : add a false b false = (-9223372036854775808, true) := by
  simp only [add, Bool.false_eq_true, if_false]; rw [if_neg (by omega), if_pos h]
theorem add_plain (a b : Int) (h : ¬ (0 < a ∧ 9223372036854775807 - a < b)) (h' : ¬ (a < 0 ∧ b < -9223372036854775808 - a)) : add a false b false = (a + b, false) := by
  simp only [add, Bool.false_eq_true, if_false]; rw [if_neg h, if_neg h']

theorem add_bounds (a : Int) (ao : Bool) (b : Int) (bo : Bool) (ha0 : -9223372036854775808 ≤ a) (ha1 : a ≤ 9223372036854775807) (hb0 : -9223372036854775808 ≤ b) (hb1 : b ≤ 9223372036854775807) :
    -9223372036854775808 ≤ (add a ao b bo).1 ∧ (add a ao b bo).1 ≤ 9223372036854775807 := by
  cases ao
  · cases bo
    · by_cases h : 0 < a ∧ 9223372036854775807 - a < b
      · rw [add_above _ _ h]; simp
      · by_cases h' : a < 0 ∧ b < -9223372036854775808 - a
        · rw [add_below _ _ h']; simp
        · rw [add_plain _ _ h h']; simp only; omega
    · rw [add_b]; exact ⟨hb0, hb1⟩
  · rw [add_a]; exact ⟨ha0, ha1⟩


/-- Is c a decimal digit? -/
def dgt (c : UInt8) : Bool := decide (48 ≤ c.toNat) && decide (c.toNat ≤ 57)
/-- What the digits l spell behind acc. -/
def valA (acc : Nat) (l : List UInt8) : Nat := l.foldl (fun a c => a * 10 + (c.toNat - 48)) acc
theorem valA_cons (acc : Nat) (c : UInt8) (r : List UInt8) : valA acc (c :: r) = valA (acc * 10 + (c.toNat - 48)) r := by unfold valA; rw [List.foldl_cons]
theorem valA_nil (acc : Nat) : valA acc [] = acc := by unfold valA; rw [List.foldl_nil]
def digs (l : List UInt8) : Bool := l.all dgt

theorem dgt_iff (c : UInt8) : dgt c = true ↔ 48 ≤ c.toNat ∧ c.toNat ≤ 57 := by simp [dgt]
theorem digs_cons (c : UInt8) (r : List UInt8) : digs (c :: r) = true ↔ (48 ≤ c.toNat ∧ c.toNat ≤ 57) ∧ digs r = true := by
  simp [digs, dgt]
theorem valA_ge (l : List UInt8) : ∀ acc : Nat, acc ≤ valA acc l := by
  induction l with
  | nil => intro acc; rw [valA_nil]; exact Nat.le_refl _
  | cons c r ih => intro acc; rw [valA_cons]; exact Nat.le_trans (by omega) (ih _)
theorem valA_append (l r : List UInt8) (acc : Nat) : valA acc (l ++ r) = valA (valA acc l) r := by unfold valA; rw [List.foldl_append]

theorem parseUint10_ok (l : List UInt8) : ∀ (acc : Nat), digs l = true → valA acc l < 18446744073709551616 → Lib.parseUint10 acc l = .ok (valA acc l) := by
  induction l with
  | nil => intro acc _ _; rw [Lib.parseUint10, valA_nil]
  | cons c r ih =>
    intro acc hd hv
    obtain ⟨hc, hr⟩ := (digs_cons c r).1 hd
    have hge := valA_ge r (acc * 10 + (c.toNat - 48))
    rw [valA_cons] at hv
    rw [valA_cons, Lib.parseUint10, if_pos hc, if_neg (by omega), if_neg (by omega)]
    exact ih _ hr hv
theorem parseUint10_range (l : List UInt8) : ∀ (acc : Nat), digs l = true → acc < 18446744073709551616 → 18446744073709551616 ≤ valA acc l → Lib.parseUint10 acc l = .range := by
  induction l with
  | nil => intro acc _ ha hv; rw [valA_nil] at hv; omega
  | cons c r ih =>
    intro acc hd ha hv
    obtain ⟨hc, hr⟩ := (digs_cons c r).1 hd
    rw [valA_cons] at hv
    rw [Lib.parseUint10, if_pos hc]
    by_cases h1 : 1844674407370955162 ≤ acc
    · rw [if_pos h1]
    · rw [if_neg h1]
      by_cases h2 : 18446744073709551616 ≤ acc * 10 + (c.toNat - 48)
      · rw [if_pos h2]
      · rw [if_neg h2]
        exact ih _ hr (by omega) hv

theorem parseMag_ok {l : List UInt8} (hn : l ≠ []) (hd : digs l = true) (hv : valA 0 l < 18446744073709551616) : Lib.parseMag l = .ok (valA 0 l) := by
  rw [Lib.parseMag, if_neg hn]; exact parseUint10_ok l 0 hd hv
theorem parseMag_range {l : List UInt8} (hn : l ≠ []) (hd : digs l = true) (hv : 18446744073709551616 ≤ valA 0 l) : Lib.parseMag l = .range := by
  rw [Lib.parseMag, if_neg hn]; exact parseUint10_range l 0 hd (by omega) hv

/-- Is l a number's form? -/
def formD (d : List UInt8) (minus : Bool) : Bool :=
  match d with
  | [] => false
  | c :: r => digs (c :: r) && (if c = 48 then r.isEmpty && !minus else true)
def cut (l : List UInt8) : List UInt8 × Bool :=
  match l with
  | [] => ([], false)
  | c :: r => if c = 45 then (r, true) else (c :: r, false)
def form (l : List UInt8) : Bool := formD (cut l).1 (cut l).2
/-- Read: the number and the error. -/
def read (l : List UInt8) : Int × Int :=
  if form l = true then
    if (cut l).2 = true then (if valA 0 (cut l).1 ≤ 9223372036854775808 then (-(valA 0 (cut l).1 : Int), 0) else (0, 3))
    else (if valA 0 (cut l).1 < 9223372036854775808 then ((valA 0 (cut l).1 : Int), 0) else (0, 3))
  else (0, 2)

theorem form_digs {l : List UInt8} (h : form l = true) : digs (cut l).1 = true ∧ (cut l).1 ≠ [] := by
  unfold form formD at h
  split at h
  · cases h
  · rename_i c r he
    rw [he]
    simp only [Bool.and_eq_true] at h
    exact ⟨h.1, by simp⟩

theorem cut_form (l : List UInt8) (h : form l = true) :
    (∃ r, l = 45 :: r ∧ cut l = (r, true) ∧ r ≠ [] ∧ digs r = true) ∨ (∃ c r, l = c :: r ∧ c.toNat ≠ 45 ∧ c.toNat ≠ 43 ∧ cut l = (l, false) ∧ digs l = true) := by
  obtain ⟨hd, hn⟩ := form_digs h
  cases l with
  | nil => exact absurd rfl hn
  | cons c r =>
    by_cases hc : c = 45
    · have e : cut (c :: r) = (r, true) := by simp [cut, hc]
      rw [e] at hd hn
      exact Or.inl ⟨r, by rw [hc], e, hn, hd⟩
    · have e : cut (c :: r) = (c :: r, false) := by simp [cut, hc]
      rw [e] at hd hn
      have := ((digs_cons c r).1 hd).1
      exact Or.inr ⟨c, r, rfl, by omega, by omega, e, hd⟩

theorem read_minus {l : List UInt8} {r : List UInt8} (h : form l = true) (hc : cut l = (r, true)) :
    (valA 0 r ≤ 9223372036854775808 → read l = (-(valA 0 r : Int), 0)) ∧ (¬ valA 0 r ≤ 9223372036854775808 → read l = (0, 3)) := by
  unfold read
  rw [if_pos h, hc]
  simp only [if_true]
  exact ⟨fun k => by rw [if_pos k], fun k => by rw [if_neg k]⟩
theorem read_plain {l : List UInt8} (h : form l = true) (hc : cut l = (l, false)) :
    (valA 0 l < 9223372036854775808 → read l = ((valA 0 l : Int), 0)) ∧ (¬ valA 0 l < 9223372036854775808 → read l = (0, 3)) := by
  unfold read
  rw [if_pos h, hc]
  simp only [Bool.false_eq_true, if_false]
  exact ⟨fun k => by rw [if_pos k], fun k => by rw [if_neg k]⟩

theorem atoi_minus_ok {r : List UInt8} {u : Nat} (h : Lib.parseMag r = .ok u) (hu : u ≤ 9223372036854775808) : Lib.atoiAll (45 :: r) = .ok (-(u : Int)) := by
  have e1 : ((45 : UInt8).toNat = 43 ∨ (45 : UInt8).toNat = 45) := by decide
  have e2 : (45 : UInt8).toNat = 45 := by decide
  simp only [Lib.atoiAll]
  rw [if_pos e1, h]
  simp only
  rw [if_neg (by omega), if_neg (by omega), if_pos e2]
theorem atoi_minus_big {r : List UInt8} {u : Nat} (h : Lib.parseMag r = .ok u) (hu : ¬ u ≤ 9223372036854775808) : Lib.atoiAll (45 :: r) = .range := by
  have e1 : ((45 : UInt8).toNat = 43 ∨ (45 : UInt8).toNat = 45) := by decide
  have e2 : (45 : UInt8).toNat = 45 := by decide
  simp only [Lib.atoiAll]
  rw [if_pos e1, h]
  simp only
  rw [if_neg (by omega), if_pos (by omega)]
theorem atoi_minus_range {r : List UInt8} (h : Lib.parseMag r = .range) : Lib.atoiAll (45 :: r) = .range := by
  have e1 : ((45 : UInt8).toNat = 43 ∨ (45 : UInt8).toNat = 45) := by decide
  simp only [Lib.atoiAll]
  rw [if_pos e1, h]
theorem atoi_plain_ok {c : UInt8} {r : List UInt8} {u : Nat} (h45 : c.toNat ≠ 45) (h43 : c.toNat ≠ 43) (h : Lib.parseMag (c :: r) = .ok u) (hu : u < 9223372036854775808) : Lib.atoiAll (c :: r) = .ok (u : Int) := by
  simp only [Lib.atoiAll]
  rw [if_neg (by omega), h]
  simp only
  rw [if_neg (by omega), if_neg (by omega), if_neg h45]
theorem atoi_plain_big {c : UInt8} {r : List UInt8} {u : Nat} (h45 : c.toNat ≠ 45) (h43 : c.toNat ≠ 43) (h : Lib.parseMag (c :: r) = .ok u) (hu : ¬ u < 9223372036854775808) : Lib.atoiAll (c :: r) = .range := by
  simp only [Lib.atoiAll]
  rw [if_neg (by omega), h]
  simp only
  rw [if_pos (by omega)]
theorem atoi_plain_range {c : UInt8} {r : List UInt8} (h45 : c.toNat ≠ 45) (h43 : c.toNat ≠ 43) (h : Lib.parseMag (c :: r) = .range) : Lib.atoiAll (c :: r) = .range := by
  simp only [Lib.atoiAll]
  rw [if_neg (by omega), h]

/-- Behind a right form the library's parse ends well, or at the range, as 'read' has it. -/
theorem parse_form (l : List UInt8) (h : form l = true) :
    (Lib.parseIntB 64 l = .ok (read l).1 ∧ read l = ((read l).1, 0)) ∨ (Lib.parseIntB 64 l = .range ∧ read l = (0, 3)) := by
  rw [Lib.parseIntB_64]
  rcases cut_form l h with ⟨r, rfl, hc, hn, hd⟩ | ⟨c, r, rfl, h45, h43, hc, hd⟩
  · have hr := read_minus h hc
    by_cases hw : valA 0 r < 18446744073709551616
    · have hm := parseMag_ok hn hd hw
      by_cases hv : valA 0 r ≤ 9223372036854775808
      · rw [hr.1 hv]; exact Or.inl ⟨atoi_minus_ok hm hv, rfl⟩
      · exact Or.inr ⟨atoi_minus_big hm hv, hr.2 hv⟩
    · exact Or.inr ⟨atoi_minus_range (parseMag_range hn hd (by omega)), hr.2 (by omega)⟩
  · have hr := read_plain h hc
    by_cases hw : valA 0 (c :: r) < 18446744073709551616
    · have hm := parseMag_ok (by simp) hd hw
      by_cases hv : valA 0 (c :: r) < 9223372036854775808
      · rw [hr.1 hv]; exact Or.inl ⟨atoi_plain_ok h45 h43 hm hv, rfl⟩
      · exact Or.inr ⟨atoi_plain_big h45 h43 hm hv, hr.2 hv⟩
    · exact Or.inr ⟨atoi_plain_range h45 h43 (parseMag_range (by simp) hd (by omega)), hr.2 (by omega)⟩

theorem read_noform {l : List UInt8} (h : form l = false) : read l = (0, 2) := by unfold read; rw [if_neg (by simp [h])]


theorem dig_toNat (u : Nat) (h : u < 10) : (UInt8.ofNat (48 + u)).toNat = 48 + u := by
  rw [UInt8.toNat_ofNat']; omega
theorem dig_back (c : UInt8) (h : 48 ≤ c.toNat ∧ c.toNat ≤ 57) : UInt8.ofNat (48 + (c.toNat - 48)) = c := by
  apply UInt8.toNat_inj.1
  rw [dig_toNat _ (by omega)]; omega

theorem digs_append (l r : List UInt8) : digs (l ++ r) = (digs l && digs r) := by simp [digs]
theorem dec_lt {u : Nat} (h : u < 10) : Lib.decDigits u = [UInt8.ofNat (48 + u)] := by rw [Lib.decDigits, dif_pos h]
theorem dec_ge {u : Nat} (h : ¬ u < 10) : Lib.decDigits u = Lib.decDigits (u / 10) ++ [UInt8.ofNat (48 + u % 10)] := by rw [Lib.decDigits, dif_neg h]

/-- A numeral's digits are digits, spell the number, and begin with no nought but for 0. -/
theorem dec_facts (u : Nat) : digs (Lib.decDigits u) = true ∧ valA 0 (Lib.decDigits u) = u ∧ (∃ c r, Lib.decDigits u = c :: r ∧ (c = 48 → r = [] ∧ u = 0)) := by
  induction u using Nat.strongRecOn with
  | ind u ih =>
    by_cases h : u < 10
    · rw [dec_lt h]
      refine ⟨?_, ?_, _, [], rfl, fun e => ⟨rfl, ?_⟩⟩
      · simp only [digs, List.all_cons, List.all_nil, Bool.and_true, dgt_iff]
        rw [dig_toNat u h]; omega
      · rw [valA_cons, valA_nil, dig_toNat u h]; omega
      · have := congrArg UInt8.toNat e
        rw [dig_toNat u h] at this
        have e48 : (48 : UInt8).toNat = 48 := rfl
        omega
    · obtain ⟨h1, h2, c, r, h3, h4⟩ := ih (u / 10) (by omega)
      rw [dec_ge h]
      refine ⟨?_, ?_, c, r ++ [UInt8.ofNat (48 + u % 10)], by rw [h3]; rfl, fun e => ?_⟩
      · rw [digs_append, h1, Bool.true_and]
        simp only [digs, List.all_cons, List.all_nil, Bool.and_true, dgt_iff]
        rw [dig_toNat _ (by omega)]; omega
      · rw [valA_append, h2, valA_cons, valA_nil, dig_toNat _ (by omega)]; omega
      · obtain ⟨_, h5⟩ := h4 e
        omega

/-- Digits without noughts ahead are the numeral of what they spell. -/
theorem dec_back (n : Nat) : ∀ l : List UInt8, l.length = n → digs l = true → (∃ c r, l = c :: r ∧ (c = 48 → r = [])) → Lib.decDigits (valA 0 l) = l := by
  induction n with
  | zero => intro l hl _ ⟨c, r, e, _⟩; subst e; simp at hl
  | succ n ih =>
    intro l hl hd ⟨c, r, e, h48⟩
    rcases List.eq_nil_or_concat r with hr | ⟨r', x, hr⟩
    · subst hr e
      have hc := ((digs_cons c []).1 hd).1
      rw [valA_cons, valA_nil, dec_lt (by omega), Nat.zero_mul, Nat.zero_add, dig_back c hc]
    · have el : l = (c :: r') ++ [x] := by rw [e, hr]; simp
      have hne : c ≠ 48 := by intro h; have := h48 h; rw [hr] at this; simp at this
      rw [el, digs_append, Bool.and_eq_true] at hd
      have hx := ((digs_cons x []).1 hd.2).1
      have hc := ((digs_cons c r').1 hd.1).1
      have hv : valA 0 l = valA 0 (c :: r') * 10 + (x.toNat - 48) := by rw [el, valA_append, valA_cons, valA_nil]
      have hp : 1 ≤ valA 0 (c :: r') := by
        rw [valA_cons]
        have := valA_ge r' (0 * 10 + (c.toNat - 48))
        have hc0 : c.toNat ≠ 48 := fun h => hne (UInt8.toNat_inj.1 h)
        omega
      have ihl := ih (c :: r') (by rw [el] at hl; simp at hl ⊢; omega) hd.1 ⟨c, r', rfl, fun h => absurd h hne⟩
      rw [hv, dec_ge (by omega), show (valA 0 (c :: r') * 10 + (x.toNat - 48)) / 10 = valA 0 (c :: r') from by omega, show (valA 0 (c :: r') * 10 + (x.toNat - 48)) % 10 = x.toNat - 48 from by omega, ihl, dig_back x hx, el]

theorem form_of {l : List UInt8} {d : List UInt8} {m : Bool} (hc : cut l = (d, m)) (hd : digs d = true) (hh : ∃ c r, d = c :: r ∧ (c = 48 → r = [] ∧ m = false)) : form l = true := by
  obtain ⟨c, r, rfl, h48⟩ := hh
  unfold form
  rw [hc]
  simp only [formD, hd, Bool.true_and]
  by_cases h : c = 48
  · rw [if_pos h]
    obtain ⟨e1, e2⟩ := h48 h
    simp [e1, e2]
  · rw [if_neg h]
theorem form_parts {l : List UInt8} (h : form l = true) : ∃ c r, (cut l).1 = c :: r ∧ (c = 48 → r = [] ∧ (cut l).2 = false) := by
  unfold form formD at h
  split at h
  · cases h
  · rename_i c r he
    refine ⟨c, r, he, fun h48 => ?_⟩
    rw [if_pos h48] at h
    simp at h
    exact h.2

/-- A number's numeral is read as it. -/
theorem read_itoa (n : Int) (h0 : -9223372036854775808 ≤ n) (h1 : n ≤ 9223372036854775807) : read (Lib.itoa n) = (n, 0) := by
  by_cases hn : n < 0
  · have e : Lib.itoa n = 45 :: Lib.decDigits n.natAbs := by unfold Lib.itoa; rw [if_pos hn]
    obtain ⟨f1, f2, c, r, f3, f4⟩ := dec_facts n.natAbs
    have hc : cut (Lib.itoa n) = (Lib.decDigits n.natAbs, true) := by rw [e]; simp [cut]
    have hf := form_of hc f1 ⟨c, r, f3, fun h => absurd (f4 h).2 (by omega)⟩
    rw [(read_minus hf hc).1 (by rw [f2]; omega), f2]
    congr 1
    omega
  · have e : Lib.itoa n = Lib.decDigits n.toNat := by unfold Lib.itoa; rw [if_neg hn]
    obtain ⟨f1, f2, c, r, f3, f4⟩ := dec_facts n.toNat
    have hcd : 48 ≤ c.toNat := by rw [f3] at f1; exact ((digs_cons c r).1 f1).1.1
    have hc : cut (Lib.itoa n) = (Lib.itoa n, false) := by
      rw [e, f3]
      have : c ≠ 45 := by intro h; rw [h] at hcd; exact absurd hcd (by decide)
      simp [cut, this]
    rw [e] at hc
    have hf := form_of hc f1 ⟨c, r, f3, fun h => ⟨(f4 h).1, rfl⟩⟩
    rw [e, (read_plain hf hc).1 (by rw [f2]; omega), f2]
    congr 1
    omega

/-- What is read has just that numeral. -/
theorem itoa_read (l : List UInt8) (h : (read l).2 = 0) : Lib.itoa (read l).1 = l := by
  by_cases hf : form l = true
  · obtain ⟨c, r, hp, h48⟩ := form_parts hf
    have hd := (form_digs hf).1
    rcases cut_form l hf with ⟨r', rfl, hc, hn, _⟩ | ⟨c', r', rfl, h45, h43, hc, _⟩
    · by_cases hv : valA 0 r' ≤ 9223372036854775808
      · rw [(read_minus hf hc).1 hv]
        rw [hc] at hp h48 hd
        simp only at hp h48 hd
        have hb := dec_back r'.length r' rfl hd ⟨c, r, hp, fun h => (h48 h).1⟩
        have hpos : 1 ≤ valA 0 r' := by
          rw [hp, valA_cons]
          rw [hp] at hd
          have hcc := ((digs_cons c r).1 hd).1
          have := valA_ge r (0 * 10 + (c.toNat - 48))
          have hc0 : c.toNat ≠ 48 := fun h => absurd (h48 (UInt8.toNat_inj.1 h)).2 (by simp)
          omega
        unfold Lib.itoa
        rw [if_pos (by simp only; omega)]
        simp only [Int.natAbs_neg, Int.natAbs_natCast]
        rw [hb]
      · rw [(read_minus hf hc).2 hv] at h; cases h
    · by_cases hv : valA 0 (c' :: r') < 9223372036854775808
      · rw [(read_plain hf hc).1 hv]
        rw [hc] at hp h48 hd
        simp only at hp h48 hd
        have hb := dec_back (c' :: r').length (c' :: r') rfl hd ⟨c, r, hp, fun h => (h48 h).1⟩
        unfold Lib.itoa
        rw [if_neg (by simp only; omega)]
        simp only [Int.toNat_natCast]
        rw [hb]
      · rw [(read_plain hf hc).2 hv] at h; cases h
  · rw [read_noform (by simpa using hf)] at h; cases h
def textL (n : Int) (o : Bool) : List UInt8 := if o = true then Lib.itoa n ++ [33] else Lib.itoa n
def bang (l : List UInt8) : Bool := Lib.hasSuffix l [33]
def sansBang (l : List UInt8) : List UInt8 := Lib.trimSuffix l [33]
def parseL (l : List UInt8) : Int × Bool × Int := if (read (sansBang l)).2 = 0 then ((read (sansBang l)).1, bang l, 0) else (0, false, (read (sansBang l)).2)

theorem bang_snoc (l : List UInt8) (c : UInt8) : bang (l ++ [c]) = decide (c = 33) := by
  unfold bang Lib.hasSuffix
  rw [Bool.eq_iff_iff, decide_eq_true_iff, List.isSuffixOf_iff_suffix]
  constructor
  · intro ⟨t, ht⟩
    have := congrArg List.getLast? ht
    simp at this
    exact this.symm
  · intro h
    exact ⟨l, by rw [h]⟩
theorem bang_nil : bang [] = false := by decide
theorem sans_of_bang {l : List UInt8} (h : bang (l ++ [33]) = true) : sansBang (l ++ [33]) = l := by
  unfold sansBang Lib.trimSuffix
  unfold bang at h
  rw [if_pos h]
  simp
theorem sans_no {l : List UInt8} (h : bang l = false) : sansBang l = l := by
  unfold sansBang Lib.trimSuffix
  unfold bang at h
  rw [if_neg (by simp [h])]
theorem bang_split {l : List UInt8} (h : bang l = true) : ∃ r, l = r ++ [33] ∧ sansBang l = r := by
  rcases List.eq_nil_or_concat l with rfl | ⟨r, c, rfl⟩
  · rw [bang_nil] at h; cases h
  · have hc : c = 33 := by
      have := bang_snoc r c
      simp only [List.concat_eq_append] at h
      rw [h] at this
      exact of_decide_eq_true this.symm
    subst hc
    simp only [List.concat_eq_append] at h ⊢
    exact ⟨r, rfl, sans_of_bang h⟩

theorem bang_digs (l : List UInt8) (h : digs l = true) : bang l = false := by
  rcases List.eq_nil_or_concat l with rfl | ⟨r, c, rfl⟩
  · exact bang_nil
  · simp only [List.concat_eq_append] at h ⊢
    rw [digs_append, Bool.and_eq_true] at h
    have hc := ((digs_cons c []).1 h.2).1
    rw [bang_snoc]
    apply decide_eq_false
    rintro rfl
    exact absurd hc.1 (by decide)
theorem bang_cons {c : UInt8} {l : List UInt8} (hl : l ≠ []) : bang (c :: l) = bang l := by
  rcases List.eq_nil_or_concat l with rfl | ⟨r, x, rfl⟩
  · exact absurd rfl hl
  · simp only [List.concat_eq_append]
    rw [← List.cons_append, bang_snoc, bang_snoc]
theorem bang_itoa (n : Int) : bang (Lib.itoa n) = false := by
  unfold Lib.itoa
  split
  · obtain ⟨f1, _, c, r, f3, _⟩ := dec_facts n.natAbs
    rw [bang_cons (by rw [f3]; simp)]
    exact bang_digs _ f1
  · exact bang_digs _ (dec_facts n.toNat).1

theorem parse_text (n : Int) (o : Bool) (h0 : -9223372036854775808 ≤ n) (h1 : n ≤ 9223372036854775807) : parseL (textL n o) = (n, o, 0) := by
  have hr := read_itoa n h0 h1
  cases o
  · have e : textL n false = Lib.itoa n := by simp [textL]
    have hb := bang_itoa n
    unfold parseL
    rw [e, sans_no hb, hr, hb]
    simp
  · have e : textL n true = Lib.itoa n ++ [33] := by simp [textL]
    have hb : bang (Lib.itoa n ++ [33]) = true := by rw [bang_snoc]; decide
    unfold parseL
    rw [e, sans_of_bang hb, hr, hb]
    simp

theorem text_parse (l : List UInt8) (h : (parseL l).2.2 = 0) : textL (parseL l).1 (parseL l).2.1 = l := by
  by_cases hr : (read (sansBang l)).2 = 0
  · have e : parseL l = ((read (sansBang l)).1, bang l, 0) := by unfold parseL; rw [if_pos hr]
    have hi := itoa_read _ hr
    rw [e]
    simp only
    cases hb : bang l with
    | false =>
      rw [sans_no hb] at hi ⊢
      simp only [textL, Bool.false_eq_true, if_false]
      exact hi
    | true =>
      obtain ⟨r, rfl, hs⟩ := bang_split hb
      rw [hs] at hi ⊢
      simp only [textL, if_true]
      rw [hi]
  · have e : parseL l = (0, false, (read (sansBang l)).2) := by unfold parseL; rw [if_neg hr]
    rw [e] at h
    exact absurd h hr
theorem parse_bad (l : List UInt8) (h : (parseL l).2.2 ≠ 0) : parseL l = (0, false, (parseL l).2.2) := by
  by_cases hr : (read (sansBang l)).2 = 0
  · have e : parseL l = ((read (sansBang l)).1, bang l, 0) := by unfold parseL; rw [if_pos hr]
    rw [e] at h
    exact absurd rfl h
  · unfold parseL; rw [if_neg hr]
theorem textL_len (n : Int) (o : Bool) (h0 : -9223372036854775808 ≤ n) (h1 : n ≤ 9223372036854775807) : (textL n o).length ≤ 22 := by
  have := Lib.itoa_length_le n h0 h1
  unfold textL
  split
  · simp; omega
  · omega
/-- What 'read' and 'parseL' give is an int64. -/
theorem read_bounds (l : List UInt8) : -9223372036854775808 ≤ (read l).1 ∧ (read l).1 ≤ 9223372036854775807 := by
  by_cases hf : form l = true
  · rcases cut_form l hf with ⟨r', rfl, hc, hn, _⟩ | ⟨c', r', rfl, h45, h43, hc, _⟩
    · by_cases hv : valA 0 r' ≤ 9223372036854775808
      · rw [(read_minus hf hc).1 hv]; simp only; omega
      · rw [(read_minus hf hc).2 hv]; decide
    · by_cases hv : valA 0 (c' :: r') < 9223372036854775808
      · rw [(read_plain hf hc).1 hv]; simp only; omega
      · rw [(read_plain hf hc).2 hv]; decide
  · rw [read_noform (by simpa using hf)]; decide
theorem parse_bounds (l : List UInt8) : -9223372036854775808 ≤ (parseL l).1 ∧ (parseL l).1 ≤ 9223372036854775807 := by
  unfold parseL
  split
  · exact read_bounds _
  · exact ⟨by simp only; omega, by simp only; omega⟩

end Go.Proofs.Ythiofbohllmfbaa.Sat
