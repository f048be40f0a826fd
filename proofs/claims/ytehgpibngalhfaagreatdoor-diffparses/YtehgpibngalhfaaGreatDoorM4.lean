/- Plain mathematics of series: their text, what is parsed from it, what is made of parts; no program, no conditions. -/
import Derived.Test.YtehgpibngalhfaaGreatDoorM2
import Derived.Lib.Strings
namespace Go.Proofs.YtehgpibngalhfaaGreatDoor.Ky
open Go Tg

/-- What stands ahead of the first byte c, and behind it. -/
def cutC (c : UInt8) : List UInt8 → Option (List UInt8 × List UInt8)
  | [] => none
  | b :: r => if b = c then some ([], r) else (cutC c r).map fun p => (b :: p.1, p.2)
theorem cutC_nil (c : UInt8) : cutC c [] = none := by rw [cutC]
theorem cutC_hit (c : UInt8) (r : List UInt8) : cutC c (c :: r) = some ([], r) := by rw [cutC, if_pos rfl]
theorem cutC_miss {b c : UInt8} (r : List UInt8) (h : b ≠ c) : cutC c (b :: r) = (cutC c r).map fun p => (b :: p.1, p.2) := by rw [cutC, if_neg h]
theorem cutC_eq (c : UInt8) : ∀ l : List UInt8, Lib.cut l [c] = match cutC c l with | none => (l, [], false) | some p => (p.1, p.2, true)
  | [] => by simp [Lib.cut, Lib.index, cutC]
  | b :: r => by
    have ih := cutC_eq c r
    by_cases h : b = c
    · subst h
      unfold Lib.cut
      rw [index_cons_eq, cutC, if_pos rfl]
      simp
    · rw [cutC, if_neg h]
      unfold Lib.cut at ih ⊢
      rw [Word.index_cons_ne b c r h]
      have hge := Lib.index_ge r [c]
      by_cases hm : Lib.index r [c] = -1
      · rw [hm] at ih ⊢
        rw [if_neg (by omega)] at ih
        simp only [beq_self_eq_true, if_true]
        rw [if_neg (by omega)]
        cases hc : cutC c r with
        | none => rfl
        | some p => rw [hc] at ih; simp at ih
      · obtain ⟨j, hj⟩ : ∃ j : Nat, Lib.index r [c] = j := ⟨(Lib.index r [c]).toNat, by omega⟩
        rw [hj] at ih ⊢
        have e1 : ((j : Int) == -1) = false := by simp
        have e3 : ((j : Int) + 1).toNat = j + 1 := by omega
        rw [if_pos (by omega)] at ih
        simp only [e1, Bool.false_eq_true, if_false, e3]
        rw [if_pos (by omega)]
        cases hc : cutC c r with
        | none => rw [hc] at ih; simp at ih
        | some p =>
          rw [hc] at ih
          simp only [Int.toNat_natCast, List.length_singleton, Prod.mk.injEq] at ih
          simp only [Option.map_some, List.take_succ_cons, List.length_singleton, Prod.mk.injEq, ih.1, true_and, and_true]
          rw [show j + 1 + 1 = (j + 1) + 1 from rfl, List.drop_succ_cons]
          exact ih.2.1
theorem cutC_app (c : UInt8) : ∀ (a b : List UInt8), c ∉ a → cutC c (a ++ c :: b) = some (a, b)
  | [], b, _ => by
    show cutC c (c :: b) = _
    rw [cutC_hit]
  | x :: a, b, h => by
    have ih := cutC_app c a b (fun e => h (by simp [e]))
    have hx : x ≠ c := fun e => h (by simp [e])
    rw [List.cons_append, cutC_miss _ hx, ih]
    rfl
theorem cutC_none (c : UInt8) : ∀ (a : List UInt8), c ∉ a → cutC c a = none
  | [], _ => cutC_nil c
  | x :: a, h => by
    have ih := cutC_none c a (fun e => h (by simp [e]))
    have hx : x ≠ c := fun e => h (by simp [e])
    rw [cutC_miss _ hx, ih]
    rfl
theorem cutC_some (c : UInt8) : ∀ l p, cutC c l = some p → l = p.1 ++ c :: p.2
  | [], p, h => by rw [cutC_nil] at h; cases h
  | b :: r, p, h => by
    by_cases hb : b = c
    · subst hb
      rw [cutC_hit] at h
      cases h
      rfl
    · rw [cutC_miss _ hb] at h
      cases hc : cutC c r with
      | none => rw [hc] at h; cases h
      | some q =>
        rw [hc] at h
        have ih := cutC_some c r q hc
        cases h
        rw [List.cons_append, ← ih]

/-- A series: its name and its tags. -/
abbrev Key := ByteArray × List Tag
def kn (k : Key) : List UInt8 := k.1.data.toList
def kright (k : Key) : Bool := Word.name (kn k) && right k.2
def none0 : Key := (⟨#[]⟩, [])
def ktextL (n : List UInt8) (l : List Tag) : List UInt8 := if l = [] then n else n ++ 123 :: (text l ++ [125])
/-- What stands ahead of the first {, and between it and the } at the end. -/
def kcut (s : List UInt8) : Option (List UInt8 × List UInt8) :=
  match cutC 123 s with
  | none => some (s, [])
  | some p => if Lib.hasSuffix p.2 [125] && !(Lib.trimSuffix p.2 [125]).isEmpty then some (p.1, Lib.trimSuffix p.2 [125]) else none
def kmk (n : ByteArray) (p : List Tag × Int) : Key × Int := if Word.name n.data.toList then (if p.2 = 0 then ((n, p.1), 0) else (none0, p.2)) else (none0, 2)
def kparse (s : List UInt8) : Key × Int := match kcut s with | none => (none0, 2) | some p => kmk ⟨p.1.toArray⟩ (parse p.2)
def kmake (n : ByteArray) (l : List Tag) : Key × Int := kmk n (canon l)

theorem suffix_app (x : List UInt8) : Lib.hasSuffix (x ++ [125]) [125] = true ∧ Lib.trimSuffix (x ++ [125]) [125] = x := by
  have h : Lib.hasSuffix (x ++ [125]) [125] = true := by
    unfold Lib.hasSuffix
    rw [List.isSuffixOf_iff_suffix]
    exact List.suffix_append x [125]
  refine ⟨h, ?_⟩
  unfold Lib.trimSuffix
  rw [if_pos h]
  simp
theorem text_ne {l : List Tag} (h : l ≠ []) : text l ≠ [] := by
  cases l with
  | nil => exact absurd rfl h
  | cons t r =>
    intro e
    unfold text at e
    rw [List.map_cons, Lib.join_cons] at e
    have := List.append_eq_nil_iff.1 e
    have h1 := this.1
    unfold pair at h1
    simp at h1
theorem kcut_text {n : List UInt8} (hn : Word.name n = true) (l : List Tag) : kcut (ktextL n l) = some (n, if l = [] then [] else text l) := by
  have h1 := Word.value_mem n 123 (Word.name_value _ hn) (by decide)
  unfold ktextL kcut
  by_cases h : l = []
  · rw [if_pos h, if_pos h, cutC_none 123 n h1]
  · rw [if_neg h, if_neg h, cutC_app 123 n _ h1]
    obtain ⟨a1, a2⟩ := suffix_app (text l)
    have h2 := text_ne h
    simp only [a1, a2]
    cases ht : text l with
    | nil => exact absurd ht h2
    | cons _ _ => rfl
theorem ba_of (s : ByteArray) : (⟨s.data.toList.toArray⟩ : ByteArray) = s := by apply ByteArray.ext; simp
/-- There and back. -/
theorem kparse_text {k : Key} (h : kright k = true) : kparse (ktextL (kn k) k.2) = (k, 0) := by
  simp only [kright, Bool.and_eq_true] at h
  unfold kparse
  rw [kcut_text h.1]
  have hp : parse (if k.2 = [] then [] else text k.2) = (k.2, 0) := by
    by_cases h0 : k.2 = []
    · rw [if_pos h0, h0]; rfl
    · rw [if_neg h0]; exact parse_text h.2
  simp only [hp]
  unfold kmk kn
  rw [ba_of]
  rw [if_pos (show Word.name k.1.data.toList = true from h.1), if_pos rfl]
theorem kmk_ok {n : ByteArray} {p : List Tag × Int} (hp : p.2 = 0 → right p.1 = true) (h : (kmk n p).2 = 0) : kright (kmk n p).1 = true ∧ kmk n p = ((n, p.1), 0) := by
  unfold kmk at h ⊢
  by_cases hn : Word.name n.data.toList = true
  · rw [if_pos hn] at h ⊢
    by_cases h0 : p.2 = 0
    · rw [if_pos h0]
      refine ⟨?_, rfl⟩
      unfold kright kn
      rw [hn, hp h0]
      rfl
    · rw [if_neg h0] at h
      exact absurd h h0
  · rw [if_neg hn] at h
    cases h
theorem kmk_err {n : ByteArray} {p : List Tag × Int} (h : (kmk n p).2 ≠ 0) : (kmk n p).1 = none0 := by
  unfold kmk at h ⊢
  by_cases hn : Word.name n.data.toList = true
  · rw [if_pos hn] at h ⊢
    by_cases h0 : p.2 = 0
    · rw [if_pos h0] at h
      exact absurd rfl h
    · rw [if_neg h0]
  · rw [if_neg hn]
theorem kparse_ok {s : List UInt8} (h : (kparse s).2 = 0) : kright (kparse s).1 = true := by
  unfold kparse at h ⊢
  cases hc : kcut s with
  | none => rw [hc] at h; cases h
  | some p => rw [hc] at h; exact (kmk_ok parse_ok h).1
theorem kparse_err {s : List UInt8} (h : (kparse s).2 ≠ 0) : (kparse s).1 = none0 := by
  unfold kparse at h ⊢
  cases hc : kcut s with
  | none => rfl
  | some p => rw [hc] at h; exact kmk_err h
theorem kmake_ok {n : ByteArray} {l : List Tag} (h : (kmake n l).2 = 0) : kright (kmake n l).1 = true := (kmk_ok (fun h => (right_canon h).1) h).1
theorem kmake_err {n : ByteArray} {l : List Tag} (h : (kmake n l).2 ≠ 0) : (kmake n l).1 = none0 := kmk_err h
theorem kmake_perm (n : ByteArray) {l m : List Tag} (h : l.Perm m) : kmake n l = kmake n m := by unfold kmake; rw [canon_perm h]
/-- One text just if the same. -/
theorem ktext_inj {k m : Key} (hk : kright k = true) (hm : kright m = true) (h : ktextL (kn k) k.2 = ktextL (kn m) m.2) : k = m := by
  have h1 := kparse_text hk
  have h2 := kparse_text hm
  rw [h, h2] at h1
  exact (Prod.mk.inj h1).1.symm
theorem kmk_le {n : ByteArray} {p : List Tag × Int} (hp : p.1.length ≤ 4) : (kmk n p).1.2.length ≤ 4 := by
  unfold kmk
  split
  · split
    · exact hp
    · exact Nat.zero_le _
  · exact Nat.zero_le _
theorem kparse_le (s : List UInt8) : (kparse s).1.2.length ≤ 4 := by
  unfold kparse
  split
  · exact Nat.zero_le _
  · exact kmk_le (parse_le _)
theorem kmake_le (n : ByteArray) (l : List Tag) : (kmake n l).1.2.length ≤ 4 := kmk_le (canon_le l)
theorem kcut_len {s : List UInt8} {p : List UInt8 × List UInt8} (h : kcut s = some p) : p.1.length ≤ s.length ∧ p.2.length ≤ s.length := by
  unfold kcut at h
  cases hc : cutC 123 s with
  | none => rw [hc] at h; cases h; simp
  | some q =>
    rw [hc] at h
    have hs := cutC_some 123 s q hc
    have hl : s.length = q.1.length + (q.2.length + 1) := by rw [hs]; simp
    have ht : (Lib.trimSuffix q.2 [125]).length ≤ q.2.length := by
      unfold Lib.trimSuffix
      split
      · simp
      · exact Nat.le_refl _
    simp only at h
    split at h
    · cases h
      constructor
      · show q.1.length ≤ _
        omega
      · show (Lib.trimSuffix q.2 [125]).length ≤ _
        omega
    · cases h
end Go.Proofs.YtehgpibngalhfaaGreatDoor.Ky
