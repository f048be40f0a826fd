/- Plain mathematics: a number's numeral is read as it, and what is read has just that numeral; the same of a sum's text; no program, no conditions. -/
import Derived.Test.YtmmpcaboedjjdaaDoorM2
namespace Go.Proofs.YtmmpcaboedjjdaaDoor.Sat
open Go

theorem dig_toNat (u : Nat) (h : u < 10) : (UInt8.ofNat (48 + u)).toNat = 48 + u := by
  rw [UInt8.toNat_ofNat']; omega
theorem dig_back (c : UInt8) (h : 48 ≤ c.toNat ∧ c.toNat ≤ 57) : UInt8.ofNat (48 + (c.toNat - 48)) = c := by
  apply UInt8.toNat_inj.1
  rw [dig_toNat _ (by omega)]; omega

theorem digs_append (l r : List UInt8) : digs (l ++ r) = (digs l && digs r) := by simp [digs]
theorem dec_lt {u : Nat} (h : u < 10) : Lib.decDigits u = [UInt8.ofNat (48 + u)] := by rw [Lib.decDigits, dif_pos h]
theorem dec_ge {u : Nat} (h : ¬ u < 10) : Lib.decDigits u = Lib.decDigits (u / 10) ++ [UInt8.ofNat (48 + u % 10)] := by rw [Lib.decDigits, dif_neg h]

/-- A numeral's digits are digits, spell the number, and begin with no nought but for 0. -/
theorem dec_facts (u : Nat) : digs (Lib.decDigits u) = true ∧ valA 0 (Lib.decDigits u) = u ∧ (∃ c r, Lib.decDigits u = c :: r ∧ (c = 48 → r = [] ∧ u = 0)) := by
  induction u using Nat.strongRecOn with
  | ind u ih =>
    by_cases h : u < 10
    · rw [dec_lt h]
      refine ⟨?_, ?_, _, [], rfl, fun e => ⟨rfl, ?_⟩⟩
      · simp only [digs, List.all_cons, List.all_nil, Bool.and_true, dgt_iff]
        rw [dig_toNat u h]; omega
      · rw [valA_cons, valA_nil, dig_toNat u h]; omega
      · have := congrArg UInt8.toNat e
        rw [dig_toNat u h] at this
        have e48 : (48 : UInt8).toNat = 48 := rfl
        omega
    · obtain ⟨h1, h2, c, r, h3, h4⟩ := ih (u / 10) (by omega)
      rw [dec_ge h]
      refine ⟨?_, ?_, c, r ++ [UInt8.ofNat (48 + u % 10)], by rw [h3]; rfl, fun e => ?_⟩
      · rw [digs_append, h1, Bool.true_and]
        simp only [digs, List.all_cons, List.all_nil, Bool.and_true, dgt_iff]
        rw [dig_toNat _ (by omega)]; omega
      · rw [valA_append, h2, valA_cons, valA_nil, dig_toNat _ (by omega)]; omega
      · obtain ⟨_, h5⟩ := h4 e
        omega

/-- Digits without noughts ahead are the numeral of what they spell. -/
theorem dec_back (n : Nat) : ∀ l : List UInt8, l.length = n → digs l = true → (∃ c r, l = c :: r ∧ (c = 48 → r = [])) → Lib.decDigits (valA 0 l) = l := by
  induction n with
  | zero => intro l hl _ ⟨c, r, e, _⟩; subst e; simp at hl
  | succ n ih =>
    intro l hl hd ⟨c, r, e, h48⟩
    rcases List.eq_nil_or_concat r with hr | ⟨r', x, hr⟩
    · subst hr e
      have hc := ((digs_cons c []).1 hd).1
      rw [valA_cons, valA_nil, dec_lt (by omega), Nat.zero_mul, Nat.zero_add, dig_back c hc]
    · have el : l = (c :: r') ++ [x] := by rw [e, hr]; simp
      have hne : c ≠ 48 := by intro h; have := h48 h; rw [hr] at this; simp at this
      rw [el, digs_append, Bool.and_eq_true] at hd
      have hx := ((digs_cons x []).1 hd.2).1
      have hc := ((digs_cons c r').1 hd.1).1
      have hv : valA 0 l = valA 0 (c :: r') * 10 + (x.toNat - 48) := by rw [el, valA_append, valA_cons, valA_nil]
      have hp : 1 ≤ valA 0 (c :: r') := by
        rw [valA_cons]
        have := valA_ge r' (0 * 10 + (c.toNat - 48))
        have hc0 : c.toNat ≠ 48 := fun h => hne (UInt8.toNat_inj.1 h)
        omega
      have ihl := ih (c :: r') (by rw [el] at hl; simp at hl ⊢; omega) hd.1 ⟨c, r', rfl, fun h => absurd h hne⟩
      rw [hv, dec_ge (by omega), show (valA 0 (c :: r') * 10 + (x.toNat - 48)) / 10 = valA 0 (c :: r') from by omega, show (valA 0 (c :: r') * 10 + (x.toNat - 48)) % 10 = x.toNat - 48 from by omega, ihl, dig_back x hx, el]

theorem form_of {l : List UInt8} {d : List UInt8} {m : Bool} (hc : cut l = (d, m)) (hd : digs d = true) (hh : ∃ c r, d = c :: r ∧ (c = 48 → r = [] ∧ m = false)) : form l = true := by
  obtain ⟨c, r, rfl, h48⟩ := hh
  unfold form
  rw [hc]
  simp only [formD, hd, Bool.true_and]
  by_cases h : c = 48
  · rw [if_pos h]
    obtain ⟨e1, e2⟩ := h48 h
    simp [e1, e2]
  · rw [if_neg h]
theorem form_parts {l : List UInt8} (h : form l = true) : ∃ c r, (cut l).1 = c :: r ∧ (c = 48 → r = [] ∧ (cut l).2 = false) := by
  unfold form formD at h
  split at h
  · cases h
  · rename_i c r he
    refine ⟨c, r, he, fun h48 => ?_⟩
    rw [if_pos h48] at h
    simp at h
    exact h.2

/-- A number's numeral is read as it. -/
theorem read_itoa (n : Int) (h0 : -9223372036854775808 ≤ n) (h1 : n ≤ 9223372036854775807) : read (Lib.itoa n) = (n, 0) := by
  by_cases hn : n < 0
  · have e : Lib.itoa n = 45 :: Lib.decDigits n.natAbs := by unfold Lib.itoa; rw [if_pos hn]
    obtain ⟨f1, f2, c, r, f3, f4⟩ := dec_facts n.natAbs
    have hc : cut (Lib.itoa n) = (Lib.decDigits n.natAbs, true) := by rw [e]; simp [cut]
    have hf := form_of hc f1 ⟨c, r, f3, fun h => absurd (f4 h).2 (by omega)⟩
    rw [(read_minus hf hc).1 (by rw [f2]; omega), f2]
    congr 1
    omega
  · have e : Lib.itoa n = Lib.decDigits n.toNat := by unfold Lib.itoa; rw [if_neg hn]
    obtain ⟨f1, f2, c, r, f3, f4⟩ := dec_facts n.toNat
    have hcd : 48 ≤ c.toNat := by rw [f3] at f1; exact ((digs_cons c r).1 f1).1.1
    have hc : cut (Lib.itoa n) = (Lib.itoa n, false) := by
      rw [e, f3]
      have : c ≠ 45 := by intro h; rw [h] at hcd; exact absurd hcd (by decide)
      simp [cut, this]
    rw [e] at hc
    have hf := form_of hc f1 ⟨c, r, f3, fun h => ⟨(f4 h).1, rfl⟩⟩
    rw [e, (read_plain hf hc).1 (by rw [f2]; omega), f2]
    congr 1
    omega

/-- What is read has just that numeral. -/
theorem itoa_read (l : List UInt8) (h : (read l).2 = 0) : Lib.itoa (read l).1 = l := by
  by_cases hf : form l = true
  · obtain ⟨c, r, hp, h48⟩ := form_parts hf
    have hd := (form_digs hf).1
    rcases cut_form l hf with ⟨r', rfl, hc, hn, _⟩ | ⟨c', r', rfl, h45, h43, hc, _⟩
    · by_cases hv : valA 0 r' ≤ 9223372036854775808
      · rw [(read_minus hf hc).1 hv]
        rw [hc] at hp h48 hd
        simp only at hp h48 hd
        have hb := dec_back r'.length r' rfl hd ⟨c, r, hp, fun h => (h48 h).1⟩
        have hpos : 1 ≤ valA 0 r' := by
          rw [hp, valA_cons]
          rw [hp] at hd
          have hcc := ((digs_cons c r).1 hd).1
          have := valA_ge r (0 * 10 + (c.toNat - 48))
          have hc0 : c.toNat ≠ 48 := fun h => absurd (h48 (UInt8.toNat_inj.1 h)).2 (by simp)
          omega
        unfold Lib.itoa
        rw [if_pos (by simp only; omega)]
        simp only [Int.natAbs_neg, Int.natAbs_natCast]
        rw [hb]
      · rw [(read_minus hf hc).2 hv] at h; cases h
    · by_cases hv : valA 0 (c' :: r') < 9223372036854775808
      · rw [(read_plain hf hc).1 hv]
        rw [hc] at hp h48 hd
        simp only at hp h48 hd
        have hb := dec_back (c' :: r').length (c' :: r') rfl hd ⟨c, r, hp, fun h => (h48 h).1⟩
        unfold Lib.itoa
        rw [if_neg (by simp only; omega)]
        simp only [Int.toNat_natCast]
        rw [hb]
      · rw [(read_plain hf hc).2 hv] at h; cases h
  · rw [read_noform (by simpa using hf)] at h; cases h
end Go.Proofs.YtmmpcaboedjjdaaDoor.Sat
