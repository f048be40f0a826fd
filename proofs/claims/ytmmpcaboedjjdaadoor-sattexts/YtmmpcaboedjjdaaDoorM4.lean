/- Plain mathematics: a sum's text is parsed as it, and what is parsed has just that text; no program, no conditions. -/
import Derived.Test.YtmmpcaboedjjdaaDoorM3
import Derived.Test.YtmmpcaboedjjdaaDoorW3
namespace Go.Proofs.YtmmpcaboedjjdaaDoor
open Go

theorem bang_snoc (l : List UInt8) (c : UInt8) : bang (l ++ [c]) = decide (c = 33) := by
  unfold bang Lib.hasSuffix
  rw [Bool.eq_iff_iff, decide_eq_true_iff, List.isSuffixOf_iff_suffix]
  constructor
  · intro ⟨t, ht⟩
    have := congrArg List.getLast? ht
    simp at this
    exact this.symm
  · intro h
    exact ⟨l, by rw [h]⟩
theorem bang_nil : bang [] = false := by decide
theorem sans_of_bang {l : List UInt8} (h : bang (l ++ [33]) = true) : sansBang (l ++ [33]) = l := by
  unfold sansBang Lib.trimSuffix
  unfold bang at h
  rw [if_pos h]
  simp
theorem sans_no {l : List UInt8} (h : bang l = false) : sansBang l = l := by
  unfold sansBang Lib.trimSuffix
  unfold bang at h
  rw [if_neg (by simp [h])]
theorem bang_split {l : List UInt8} (h : bang l = true) : ∃ r, l = r ++ [33] ∧ sansBang l = r := by
  rcases List.eq_nil_or_concat l with rfl | ⟨r, c, rfl⟩
  · rw [bang_nil] at h; cases h
  · have hc : c = 33 := by
      have := bang_snoc r c
      simp only [List.concat_eq_append] at h
      rw [h] at this
      exact of_decide_eq_true this.symm
    subst hc
    simp only [List.concat_eq_append] at h ⊢
    exact ⟨r, rfl, sans_of_bang h⟩

theorem bang_digs (l : List UInt8) (h : Sat.digs l = true) : bang l = false := by
  rcases List.eq_nil_or_concat l with rfl | ⟨r, c, rfl⟩
  · exact bang_nil
  · simp only [List.concat_eq_append] at h ⊢
    rw [Sat.digs_append, Bool.and_eq_true] at h
    have hc := ((Sat.digs_cons c []).1 h.2).1
    rw [bang_snoc]
    apply decide_eq_false
    rintro rfl
    exact absurd hc.1 (by decide)
theorem bang_cons {c : UInt8} {l : List UInt8} (hl : l ≠ []) : bang (c :: l) = bang l := by
  rcases List.eq_nil_or_concat l with rfl | ⟨r, x, rfl⟩
  · exact absurd rfl hl
  · simp only [List.concat_eq_append]
    rw [← List.cons_append, bang_snoc, bang_snoc]
theorem bang_itoa (n : Int) : bang (Lib.itoa n) = false := by
  unfold Lib.itoa
  split
  · obtain ⟨f1, _, c, r, f3, _⟩ := Sat.dec_facts n.natAbs
    rw [bang_cons (by rw [f3]; simp)]
    exact bang_digs _ f1
  · exact bang_digs _ (Sat.dec_facts n.toNat).1

theorem parse_text (n : Int) (o : Bool) (h0 : -9223372036854775808 ≤ n) (h1 : n ≤ 9223372036854775807) : parseL (textL n o) = (n, o, 0) := by
  have hr := Sat.read_itoa n h0 h1
  cases o
  · have e : textL n false = Lib.itoa n := by simp [textL]
    have hb := bang_itoa n
    unfold parseL
    rw [e, sans_no hb, hr, hb]
    simp
  · have e : textL n true = Lib.itoa n ++ [33] := by simp [textL]
    have hb : bang (Lib.itoa n ++ [33]) = true := by rw [bang_snoc]; decide
    unfold parseL
    rw [e, sans_of_bang hb, hr, hb]
    simp

theorem text_parse (l : List UInt8) (h : (parseL l).2.2 = 0) : textL (parseL l).1 (parseL l).2.1 = l := by
  by_cases hr : (Sat.read (sansBang l)).2 = 0
  · have e : parseL l = ((Sat.read (sansBang l)).1, bang l, 0) := by unfold parseL; rw [if_pos hr]
    have hi := Sat.itoa_read _ hr
    rw [e]
    simp only
    cases hb : bang l with
    | false =>
      rw [sans_no hb] at hi ⊢
      simp only [textL, Bool.false_eq_true, if_false]
      exact hi
    | true =>
      obtain ⟨r, rfl, hs⟩ := bang_split hb
      rw [hs] at hi ⊢
      simp only [textL, if_true]
      rw [hi]
  · have e : parseL l = (0, false, (Sat.read (sansBang l)).2) := by unfold parseL; rw [if_neg hr]
    rw [e] at h
    exact absurd h hr
theorem parse_bad (l : List UInt8) (h : (parseL l).2.2 ≠ 0) : parseL l = (0, false, (parseL l).2.2) := by
  by_cases hr : (Sat.read (sansBang l)).2 = 0
  · have e : parseL l = ((Sat.read (sansBang l)).1, bang l, 0) := by unfold parseL; rw [if_pos hr]
    rw [e] at h
    exact absurd rfl h
  · unfold parseL; rw [if_neg hr]
theorem textL_len (n : Int) (o : Bool) (h0 : -9223372036854775808 ≤ n) (h1 : n ≤ 9223372036854775807) : (textL n o).length ≤ 22 := by
  have := Lib.itoa_length_le n h0 h1
  unfold textL
  split
  · simp; omega
  · omega
/-- What 'read' and 'parseL' give is an int64. -/
theorem read_bounds (l : List UInt8) : -9223372036854775808 ≤ (Sat.read l).1 ∧ (Sat.read l).1 ≤ 9223372036854775807 := by
  by_cases hf : Sat.form l = true
  · rcases Sat.cut_form l hf with ⟨r', rfl, hc, hn, _⟩ | ⟨c', r', rfl, h45, h43, hc, _⟩
    · by_cases hv : Sat.valA 0 r' ≤ 9223372036854775808
      · rw [(Sat.read_minus hf hc).1 hv]; simp only; omega
      · rw [(Sat.read_minus hf hc).2 hv]; decide
    · by_cases hv : Sat.valA 0 (c' :: r') < 9223372036854775808
      · rw [(Sat.read_plain hf hc).1 hv]; simp only; omega
      · rw [(Sat.read_plain hf hc).2 hv]; decide
  · rw [Sat.read_noform (by simpa using hf)]; decide
theorem parse_bounds (l : List UInt8) : -9223372036854775808 ≤ (parseL l).1 ∧ (parseL l).1 ≤ 9223372036854775807 := by
  unfold parseL
  split
  · exact read_bounds _
  · exact ⟨by simp only; omega, by simp only; omega⟩
end Go.Proofs.YtmmpcaboedjjdaaDoor
