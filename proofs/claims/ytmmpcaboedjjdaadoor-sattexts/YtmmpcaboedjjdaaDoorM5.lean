/- Plain mathematics: the document's way of reading a number, step by step, is 'read'; no program, no conditions. -/
import Derived.Test.YtmmpcaboedjjdaaDoorM4
namespace Go.Proofs.YtmmpcaboedjjdaaDoor
open Go

/-- What reading comes to, told of the digits d and the sign m. -/
structure Reads (l d : List UInt8) (m : Bool) : Prop where
  nought : ∀ r, d = 48 :: r → 1 < l.length → Sat.read l = (0, 2)
  bad : Sat.digs d = false → Sat.read l = (0, 2)
  big : Sat.digs d = true → d ≠ [] → ((∀ r, d = 48 :: r → ¬ 1 < l.length)) → 9223372036854775808 < Sat.valA 0 d → Sat.read l = (0, 3)
  neg : m = true → Sat.digs d = true → d ≠ [] → ((∀ r, d = 48 :: r → ¬ 1 < l.length)) → Sat.valA 0 d ≤ 9223372036854775808 → Sat.read l = (-(Sat.valA 0 d : Int), 0)
  pos : m = false → Sat.digs d = true → d ≠ [] → ((∀ r, d = 48 :: r → ¬ 1 < l.length)) → Sat.valA 0 d < 9223372036854775808 → Sat.read l = ((Sat.valA 0 d : Int), 0)
  top : m = false → Sat.digs d = true → d ≠ [] → ((∀ r, d = 48 :: r → ¬ 1 < l.length)) → Sat.valA 0 d = 9223372036854775808 → Sat.read l = (0, 3)

theorem noform_of {l : List UInt8} (h : Sat.form l ≠ true) : Sat.read l = (0, 2) := Sat.read_noform (by simpa using h)

theorem reads_minus (d : List UInt8) (hd : d ≠ []) : Reads (45 :: d) d true := by
  have hc : Sat.cut (45 :: d) = (d, true) := by simp [Sat.cut]
  have hlen : 1 < (45 :: d).length := by
    cases d with
    | nil => exact absurd rfl hd
    | cons a b => simp
  have hform : Sat.digs d = true → (∀ r, d = 48 :: r → ¬ 1 < (45 :: d).length) → Sat.form (45 :: d) = true := by
    intro h1 h2
    cases d with
    | nil => exact absurd rfl hd
    | cons c r => exact Sat.form_of hc h1 ⟨c, r, rfl, fun h => absurd hlen (h2 r (by rw [h]))⟩
  refine ⟨?_, ?_, ?_, ?_, ?_, ?_⟩
  · rintro r rfl _
    apply noform_of
    intro h
    obtain ⟨c, r', e, h48⟩ := Sat.form_parts h
    rw [hc] at e h48
    simp only [List.cons.injEq] at e
    exact absurd (h48 e.1.symm).2 (by simp)
  · intro h
    apply noform_of
    intro hf
    have := (Sat.form_digs hf).1
    rw [hc, h] at this
    cases this
  · intro h1 _ h2 h3
    exact (Sat.read_minus (hform h1 h2) hc).2 (by omega)
  · intro _ h1 _ h2 h3
    exact (Sat.read_minus (hform h1 h2) hc).1 h3
  · intro h; cases h
  · intro h; cases h

theorem reads_plain (l : List UInt8) (hl : ¬ (1 < l.length ∧ ∃ r, l = 45 :: r)) : Reads l l false := by
  have hcut : Sat.digs l = true → l ≠ [] → Sat.cut l = (l, false) := by
    intro h1 h2
    cases l with
    | nil => exact absurd rfl h2
    | cons c r =>
      have := ((Sat.digs_cons c r).1 h1).1
      have hc : c ≠ 45 := by rintro rfl; exact absurd this.1 (by decide)
      simp [Sat.cut, hc]
  have hform : Sat.digs l = true → l ≠ [] → (∀ r, l = 48 :: r → ¬ 1 < l.length) → Sat.form l = true := by
    intro h1 h0 h2
    have hc := hcut h1 h0
    cases l with
    | nil => exact absurd rfl h0
    | cons c r =>
      refine Sat.form_of hc h1 ⟨c, r, rfl, fun h => ⟨?_, rfl⟩⟩
      have := h2 r (by rw [h])
      simp at this
      exact this
  refine ⟨?_, ?_, ?_, ?_, ?_, ?_⟩
  · rintro r rfl hlen
    apply noform_of
    intro h
    have hc : Sat.cut (48 :: r) = (48 :: r, false) := by simp [Sat.cut]
    obtain ⟨c, r', e, h48⟩ := Sat.form_parts h
    rw [hc] at e h48
    simp only [List.cons.injEq] at e
    have := (h48 e.1.symm).1
    rw [e.2, this] at hlen
    simp at hlen
  · intro h
    apply noform_of
    intro hf
    rcases Sat.cut_form l hf with ⟨r, e, hc, hn, hd⟩ | ⟨c, r, e, _, _, hc, hd⟩
    · refine hl ⟨?_, r, e⟩
      rw [e]
      cases r with
      | nil => exact absurd rfl hn
      | cons a b => simp
    · rw [h] at hd; cases hd
  · intro h1 h0 h2 h3
    exact (Sat.read_plain (hform h1 h0 h2) (hcut h1 h0)).2 (by omega)
  · intro h; cases h
  · intro _ h1 h0 h2 h3
    exact (Sat.read_plain (hform h1 h0 h2) (hcut h1 h0)).1 h3
  · intro _ h1 h0 h2 h3
    exact (Sat.read_plain (hform h1 h0 h2) (hcut h1 h0)).2 (by omega)

theorem valA_take_le (l : List UInt8) (k : Nat) : Sat.valA 0 (l.take k) ≤ Sat.valA 0 l := by
  have h := List.take_append_drop k l
  have e : Sat.valA 0 l = Sat.valA 0 (l.take k ++ l.drop k) := by rw [h]
  rw [e, Sat.valA_append]
  exact Sat.valA_ge _ _
theorem valA_snoc (l : List UInt8) (c : UInt8) : Sat.valA 0 (l ++ [c]) = Sat.valA 0 l * 10 + (c.toNat - 48) := by
  rw [Sat.valA_append, Sat.valA_cons, Sat.valA_nil]
end Go.Proofs.YtmmpcaboedjjdaaDoor
