/- Plain mathematics of changes gone through side by side: one change applied to what lies behind those that were, what a part tells, and the changes from rows to others, one by one; no program, no conditions. -/
import Derived.Test.YtehgpibngalhfaaGreatDoorM8
namespace Go.Proofs.YtehgpibngalhfaaGreatDoor.Df
open Go Tg Pk Ky Qy Rw

/-! ### how many stand ahead -/
def aheadN : List Row → Row → Nat
  | [], _ => 0
  | x :: t, r => if rlt x r then aheadN t r + 1 else 0
theorem aheadN_nil (r : Row) : aheadN [] r = 0 := by rw [aheadN]
theorem aheadN_less {x r : Row} (t : List Row) (h : rlt x r = true) : aheadN (x :: t) r = aheadN t r + 1 := by rw [aheadN, if_pos h]
theorem aheadN_here {x r : Row} (t : List Row) (h : rlt x r = false) : aheadN (x :: t) r = 0 := by rw [aheadN, if_neg (by simp [h])]
theorem aheadN_at : ∀ (l : List Row) (r : Row) (k : Nat), k ≤ l.length → (∀ j (hj : j < l.length), j < k → rlt l[j] r = true) → (∀ (h : k < l.length), rlt l[k] r = false) → aheadN l r = k
  | [], r, k, hk, _, _ => by
    have : k = 0 := by simpa using hk
    subst this; exact aheadN_nil r
  | y :: t, r, 0, _, _, h => aheadN_here t (h (by simp))
  | y :: t, r, k + 1, hk, hl, h => by
    have hy : rlt y r = true := hl 0 (by simp) (by omega)
    rw [aheadN_less t hy, aheadN_at t r k (by simpa using hk) (fun j hj hjk => hl (j + 1) (by simpa using hj) (by omega)) (fun h' => h (by simpa using h'))]
theorem aheadN_facts : ∀ (l : List Row) (r : Row), aheadN l r ≤ l.length ∧ (∀ x ∈ l.take (aheadN l r), rlt x r = true) ∧ ∀ y t, l.drop (aheadN l r) = y :: t → rlt y r = false
  | [], r => by rw [aheadN_nil]; exact ⟨Nat.le_refl _, fun x hx => by simp at hx, fun y t h => by simp at h⟩
  | x :: t, r => by
    obtain ⟨h1, h2, h3⟩ := aheadN_facts t r
    cases h : rlt x r
    · rw [aheadN_here t h]
      refine ⟨by simp, fun y hy => by simp at hy, fun y s e => ?_⟩
      rw [List.drop_zero] at e
      cases e; exact h
    · rw [aheadN_less t h]
      refine ⟨by simp; omega, fun y hy => ?_, fun y s e => h3 y s (by simpa using e)⟩
      rw [List.take_succ_cons] at hy
      rcases List.mem_cons.1 hy with rfl | hy
      · exact h
      · exact h2 y hy

/-! ### one change applied -/
theorem up_two {P D : List Row} : Up (P ++ D) ↔ Up P ∧ Up D ∧ ∀ a ∈ P, ∀ b ∈ D, rlt a b = true := by
  unfold Up; rw [List.pairwise_append]
theorem stepP_none {P D : List Row} {c : Chg} (hP : ∀ x ∈ P, rlt x c.r = true) (hD : ∀ x ∈ D, rlt c.r x = true) (hg : c.gone = true) : stepA (P ++ D) c = none := by
  refine stepA_none.2 ⟨hg, fun x hx => ?_⟩
  rcases List.mem_append.1 hx with hx | hx
  · exact rlt_apart (hP x hx)
  · exact rlt_apart' (hD x hx)
theorem stepP_put {P D : List Row} {c : Chg} (hu : Up (P ++ D)) (hP : ∀ x ∈ P, rlt x c.r = true) (hD : ∀ x ∈ D, rlt c.r x = true) (hg : c.gone = false) : stepA (P ++ D) c = some (P ++ c.r :: D) := by
  obtain ⟨u1, u2, u3⟩ := up_two.1 hu
  cases h : stepA (P ++ D) c with
  | none => have := (stepA_none.1 h).1; rw [hg] at this; cases this
  | some m =>
    obtain ⟨um, hm⟩ := stepA_some hu h
    rw [rows_ext um (up_cut.2 ⟨u1, u2, hP, hD⟩) (fun x => ?_)]
    rw [hm x, List.mem_append, List.mem_append, List.mem_cons]
    constructor
    · rintro (⟨_, h⟩ | ⟨h | h, _⟩)
      · exact Or.inr (Or.inl h)
      · exact Or.inl h
      · exact Or.inr (Or.inr h)
    · rintro (h | h | h)
      · exact Or.inr ⟨Or.inl h, rlt_apart (hP x h)⟩
      · exact Or.inl ⟨hg, h⟩
      · exact Or.inr ⟨Or.inr h, rlt_apart' (hD x h)⟩
theorem stepP_set {P t : List Row} {y : Row} {c : Chg} (hu : Up (P ++ y :: t)) (hy : pe y c.r = true) (hg : c.gone = false) : stepA (P ++ y :: t) c = some (P ++ c.r :: t) := by
  obtain ⟨u1, u2, u3, u4⟩ := up_cut.1 hu
  have hP : ∀ x ∈ P, rlt x c.r = true := fun x hx => by rw [← rlt_right hy]; exact u3 x hx
  have hD : ∀ x ∈ t, rlt c.r x = true := fun x hx => by rw [← rlt_left hy]; exact u4 x hx
  cases h : stepA (P ++ y :: t) c with
  | none => have := (stepA_none.1 h).1; rw [hg] at this; cases this
  | some m =>
    obtain ⟨um, hm⟩ := stepA_some hu h
    rw [rows_ext um (up_cut.2 ⟨u1, u2, hP, hD⟩) (fun x => ?_)]
    rw [hm x, List.mem_append, List.mem_append, List.mem_cons, List.mem_cons]
    constructor
    · rintro (⟨_, h⟩ | ⟨h | h | h, hp⟩)
      · exact Or.inr (Or.inl h)
      · exact Or.inl h
      · rw [h, hy] at hp; cases hp
      · exact Or.inr (Or.inr h)
    · rintro (h | h | h)
      · exact Or.inr ⟨Or.inl h, rlt_apart (hP x h)⟩
      · exact Or.inl ⟨hg, h⟩
      · exact Or.inr ⟨Or.inr (Or.inr h), rlt_apart' (hD x h)⟩
theorem stepP_del {P t : List Row} {y : Row} {c : Chg} (hu : Up (P ++ y :: t)) (hy : pe y c.r = true) (hg : c.gone = true) : stepA (P ++ y :: t) c = some (P ++ t) := by
  obtain ⟨u1, u2, u3, u4⟩ := up_cut.1 hu
  have hP : ∀ x ∈ P, rlt x c.r = true := fun x hx => by rw [← rlt_right hy]; exact u3 x hx
  have hD : ∀ x ∈ t, rlt c.r x = true := fun x hx => by rw [← rlt_left hy]; exact u4 x hx
  cases h : stepA (P ++ y :: t) c with
  | none => have := (stepA_none.1 h).2 y (by simp); rw [hy] at this; cases this
  | some m =>
    obtain ⟨um, hm⟩ := stepA_some hu h
    rw [rows_ext um (up_two.2 ⟨u1, u2, fun a ha b hb => rlt_tr (u3 a ha) (u4 b hb)⟩) (fun x => ?_)]
    rw [hm x, List.mem_append, List.mem_append, List.mem_cons]
    constructor
    · rintro (⟨h, _⟩ | ⟨h | h | h, hp⟩)
      · rw [hg] at h; cases h
      · exact Or.inl h
      · rw [h, hy] at hp; cases hp
      · exact Or.inr h
    · rintro (h | h)
      · exact Or.inr ⟨Or.inl h, rlt_apart (hP x h)⟩
      · exact Or.inr ⟨Or.inr (Or.inr h), rlt_apart' (hD x h)⟩

/-! ### changes applied, one behind the other: R is done, L is left -/
structure Way (l : List Row) (cs : List Chg) (k : Nat) (R L : List Row) : Prop where
  is : applyD l (cs.take k) = some (R ++ L)
  up : Up (R ++ L)
  ah : ∀ x ∈ R, ∀ c ∈ cs.drop k, rlt x c.r = true
  len : L.length ≤ l.length
theorem way_zero {l : List Row} (cs : List Chg) (h : Up l) : Way l cs 0 [] l :=
  ⟨by rw [List.take_zero, applyD_nil]; rfl, h, fun x hx => by simp at hx, Nat.le_refl _⟩
theorem way_end {l : List Row} {cs : List Chg} {k : Nat} {R L : List Row} (h : Way l cs k R L) (hk : ¬ k < cs.length) : applyD l cs = some (R ++ L) := by
  have := h.is; rwa [List.take_of_length_le (by omega)] at this
theorem way_len {l : List Row} {cs : List Chg} {k : Nat} {R L : List Row} (h : Way l cs k R L) : R.length + L.length ≤ l.length + cs.length := by
  have := applyD_len _ _ h.is
  rw [List.length_append, List.length_take] at this; omega
theorem up_behind {cs : List Chg} {k : Nat} (hu : UpC cs) (hk : k < cs.length) : ∀ c ∈ cs.drop (k + 1), rlt cs[k].r c.r = true := by
  have h : UpC (cs.drop k) := hu.sublist (List.drop_sublist _ _)
  rw [List.drop_eq_getElem_cons hk] at h
  exact (List.pairwise_cons.1 h).1
section
variable {l : List Row} {cs : List Chg} {k : Nat} {R A : List Row}
theorem way_ahead {L : List Row} (h : Way l cs k R L) (hu : UpC cs) (hk : k < cs.length) (hA : ∀ x ∈ A, rlt x cs[k].r = true) : ∀ x ∈ R ++ A, ∀ c ∈ cs.drop (k + 1), rlt x c.r = true := by
  intro x hx c hc
  rcases List.mem_append.1 hx with hx | hx
  · refine h.ah x hx c ?_
    rw [List.drop_eq_getElem_cons hk]; exact List.mem_cons_of_mem _ hc
  · exact rlt_tr (hA x hx) (up_behind hu hk c hc)
theorem way_less {L : List Row} (h : Way l cs k R L) (hk : k < cs.length) (hA : ∀ x ∈ A, rlt x cs[k].r = true) : ∀ x ∈ R ++ A, rlt x cs[k].r = true := by
  intro x hx
  rcases List.mem_append.1 hx with hx | hx
  · refine h.ah x hx _ ?_
    rw [List.drop_eq_getElem_cons hk]; exact List.mem_cons_self
  · exact hA x hx
/-- One that comes, of a place where there is none. -/
theorem way_put {D : List Row} (h : Way l cs k R (A ++ D)) (hu : UpC cs) (hk : k < cs.length) (hA : ∀ x ∈ A, rlt x cs[k].r = true) (hD : ∀ x ∈ D, rlt cs[k].r x = true) (hg : cs[k].gone = false) : Way l cs (k + 1) (R ++ A ++ [cs[k].r]) D := by
  have hP := way_less h hk hA
  have u := h.up
  rw [← List.append_assoc] at u
  have s := stepP_put u hP hD hg
  have e : R ++ A ++ [cs[k].r] ++ D = R ++ A ++ cs[k].r :: D := by simp
  refine ⟨?_, ?_, fun x hx c hc => ?_, ?_⟩
  · rw [e]; exact applyD_next hk (by rw [List.append_assoc]; exact h.is) s
  · rw [e]; exact (stepA_some u s).1
  · rcases List.mem_append.1 hx with hx | hx
    · exact way_ahead h hu hk hA x hx c hc
    · rw [List.mem_singleton] at hx; subst hx; exact up_behind hu hk c hc
  · have := h.len; rw [List.length_append] at this; omega
/-- One that comes in another one's place. -/
theorem way_set {t : List Row} {y : Row} (h : Way l cs k R (A ++ y :: t)) (hu : UpC cs) (hk : k < cs.length) (hA : ∀ x ∈ A, rlt x cs[k].r = true) (hy : pe y cs[k].r = true) (hg : cs[k].gone = false) : Way l cs (k + 1) (R ++ A ++ [cs[k].r]) t := by
  have u := h.up
  rw [← List.append_assoc] at u
  have s := stepP_set u hy hg
  have e : R ++ A ++ [cs[k].r] ++ t = R ++ A ++ cs[k].r :: t := by simp
  refine ⟨?_, ?_, fun x hx c hc => ?_, ?_⟩
  · rw [e]; exact applyD_next hk (by rw [List.append_assoc]; exact h.is) s
  · rw [e]; exact (stepA_some u s).1
  · rcases List.mem_append.1 hx with hx | hx
    · exact way_ahead h hu hk hA x hx c hc
    · rw [List.mem_singleton] at hx; subst hx; exact up_behind hu hk c hc
  · have := h.len; rw [List.length_append, List.length_cons] at this; omega
/-- One that goes. -/
theorem way_del {t : List Row} {y : Row} (h : Way l cs k R (A ++ y :: t)) (hu : UpC cs) (hk : k < cs.length) (hA : ∀ x ∈ A, rlt x cs[k].r = true) (hy : pe y cs[k].r = true) (hg : cs[k].gone = true) : Way l cs (k + 1) (R ++ A) t := by
  have u := h.up
  rw [← List.append_assoc] at u
  have s := stepP_del u hy hg
  refine ⟨applyD_next hk (by rw [List.append_assoc]; exact h.is) s, (stepA_some u s).1, way_ahead h hu hk hA, ?_⟩
  have := h.len; rw [List.length_append, List.length_cons] at this; omega
/-- One that goes, of a place where there is none. -/
theorem way_none {D : List Row} (h : Way l cs k R (A ++ D)) (hk : k < cs.length) (hA : ∀ x ∈ A, rlt x cs[k].r = true) (hD : ∀ x ∈ D, rlt cs[k].r x = true) (hg : cs[k].gone = true) : applyD l cs = none :=
  applyD_stop hk h.is (by rw [← List.append_assoc]; exact stepP_none (way_less h hk hA) hD hg)
theorem way_over {L : List Row} {y : Row} {t : List Row} (h : Way l cs k R (A ++ y :: t)) {r : Row} (hy : rlt r y = true) : L = y :: t → ∀ x ∈ L, rlt r x = true := by
  rintro rfl x hx
  obtain ⟨_, u2, _⟩ := up_two.1 h.up
  obtain ⟨_, _, _, u6⟩ := up_cut.1 u2
  rcases List.mem_cons.1 hx with rfl | hx
  · exact hy
  · exact rlt_tr hy (u6 x hx)
end

/-! ### first of two lists -/
def firstL : List Row → List Row → Bool
  | [], _ => false
  | _ :: _, [] => true
  | x :: _, y :: _ => rlt x y
theorem firstL_nil (b : List Row) : firstL [] b = false := rfl
theorem firstL_end (x : Row) (a : List Row) : firstL (x :: a) [] = true := rfl
theorem firstL_two (x y : Row) (a b : List Row) : firstL (x :: a) (y :: b) = rlt x y := rfl
theorem merge_left {x : Row} {a b : List Row} (h : firstL (x :: a) b = true) : mergeD (x :: a) b = goneC x :: mergeD a b := by
  cases b with
  | nil => rw [mergeD_end, mergeD_end]; rfl
  | cons y b => exact mergeD_lt a b h
theorem merge_right {y : Row} {a b : List Row} (h : firstL (y :: b) a = true) : mergeD a (y :: b) = comeC y :: mergeD a b := by
  cases a with
  | nil => rw [mergeD_nil, mergeD_nil]; rfl
  | cons x a => exact mergeD_gt a b h
theorem merge_meet {a b : List Row} (h1 : firstL a b = false) (h2 : firstL b a = false) (hne : ¬ (a = [] ∧ b = [])) : ∃ x s y t, a = x :: s ∧ b = y :: t ∧ pe x y = true := by
  cases a with
  | nil =>
    cases b with
    | nil => exact absurd ⟨rfl, rfl⟩ hne
    | cons y b => cases h2
  | cons x a =>
    cases b with
    | nil => cases h1
    | cons y b => exact ⟨x, a, y, b, rfl, rfl, rlt_neither h1 h2⟩
theorem firstL_some {a b : List Row} (h : firstL a b = true) : ∃ x s, a = x :: s := by
  cases a with
  | nil => cases h
  | cons x s => exact ⟨x, s, rfl⟩

/-! ### what a part tells -/
theorem parts_snoc (c : UInt8) (x : List UInt8) (hx : c ∉ x) : ∀ q : List UInt8, Word.parts c (q ++ c :: x) = Word.parts c q ++ [x]
  | [] => by
    show Word.parts c (c :: x) = Word.parts c [] ++ [x]
    rw [Word.parts_hit, parts_self hx]; rfl
  | b :: q => by
    rw [List.cons_append]
    by_cases h : b = c
    · subst h
      rw [Word.parts_hit, Word.parts_hit, parts_snoc b x hx q]; rfl
    · rw [Word.parts_miss b c _ h, Word.parts_miss b c q h, parts_snoc c x hx q]
      cases hq : Word.parts c q with
      | nil => exact absurd hq (Word.parts_ne c q)
      | cons p r => rfl
theorem parse_zero : Sat.parseL [48] = (0, false, 0) := by
  have h := Sat.parse_text 0 false (by decide) (by decide)
  have e : Sat.textL 0 false = [48] := by decide +kernel
  rw [e] at h; exact h
theorem rread_gone (q : List UInt8) : rread (q ++ [124, 48]) = (((goneRead q).1).r, (goneRead q).2) := by
  have hp := parts_snoc 124 [48] (by decide) q
  by_cases h : (Word.parts 124 q).length = 2
  · obtain ⟨a, b, e⟩ : ∃ a b, Word.parts 124 q = [a, b] := by
      match hq : Word.parts 124 q, h with
      | [a, b], _ => exact ⟨a, b, rfl⟩
    rw [e] at hp
    rw [rread_three (c := [48]) hp, goneRead_two e, parse_zero]
    by_cases h1 : (Sat.read a).2 = 0
    · rw [if_pos h1, if_pos h1]
      by_cases h2 : grpE (bb b) = 0
      · rw [if_pos h2, if_pos h2, if_pos rfl]
      · rw [if_neg h2, if_neg h2]; rfl
    · rw [if_neg h1, if_neg h1]; rfl
  · rw [goneRead_else h, rread_else (by rw [hp, List.length_append]; simp; omega)]; rfl
theorem goneRead_kind (q : List UInt8) : (goneRead q).2 = 0 → (goneRead q).1.gone = true := by
  intro h0
  by_cases h : (Word.parts 124 q).length = 2
  · obtain ⟨a, b, e⟩ : ∃ a b, Word.parts 124 q = [a, b] := by
      match hq : Word.parts 124 q, h with
      | [a, b], _ => exact ⟨a, b, rfl⟩
    rw [goneRead_two e] at h0 ⊢
    by_cases h1 : (Sat.read a).2 = 0
    · rw [if_pos h1] at h0 ⊢
      by_cases h2 : grpE (bb b) = 0
      · rw [if_pos h2]
      · rw [if_neg h2] at h0; exact absurd h0 h2
    · rw [if_neg h1] at h0; exact absurd h0 h1
  · rw [goneRead_else h] at h0; cases h0
theorem goneRead_err {q : List UInt8} : ¬ (goneRead q).2 = 0 → (goneRead q).1 = zchg := by
  intro h0
  by_cases h : (Word.parts 124 q).length = 2
  · obtain ⟨a, b, e⟩ : ∃ a b, Word.parts 124 q = [a, b] := by
      match hq : Word.parts 124 q, h with
      | [a, b], _ => exact ⟨a, b, rfl⟩
    rw [goneRead_two e] at h0 ⊢
    by_cases h1 : (Sat.read a).2 = 0
    · rw [if_pos h1] at h0 ⊢
      by_cases h2 : grpE (bb b) = 0
      · rw [if_pos h2] at h0; exact absurd rfl h0
      · rw [if_neg h2]
    · rw [if_neg h1]
  · rw [goneRead_else h]
/-- Read as a row, its value put back. -/
theorem goneRead_row {q : List UInt8} (h59 : (59 : UInt8) ∉ q) : ((rparse (q ++ [124, 48])).2 = 0 → ∃ r, (rparse (q ++ [124, 48])).1 = [r] ∧ goneRead q = (⟨r, true⟩, 0)) ∧ (¬ (rparse (q ++ [124, 48])).2 = 0 → goneRead q = (zchg, (rparse (q ++ [124, 48])).2)) := by
  have h1 : q ++ [124, 48] ≠ [45] := by
    intro e
    have : (124 : UInt8) ∈ q ++ [124, 48] := by simp
    rw [e] at this; simp at this
  have h2 : (59 : UInt8) ∉ q ++ [124, 48] := by
    rw [List.mem_append]
    rintro (h | h)
    · exact h59 h
    · simp at h
  rw [rparse_one h1 h2, rread_gone]
  by_cases h : (goneRead q).2 = 0
  · rw [if_pos h]
    refine ⟨fun _ => ⟨_, rfl, ?_⟩, fun h' => absurd rfl h'⟩
    refine Prod.ext (chg_ext rfl (goneRead_kind q h)) h
  · rw [if_neg h]
    exact ⟨fun h' => absurd h' h, fun _ => Prod.ext (goneRead_err h) rfl⟩
theorem comeRead_row {p : List UInt8} (h1 : p ≠ [45]) (h2 : (59 : UInt8) ∉ p) : ((rparse p).2 = 0 → ∃ r, (rparse p).1 = [r] ∧ comeRead p = (⟨r, false⟩, 0)) ∧ (¬ (rparse p).2 = 0 → comeRead p = (zchg, (rparse p).2)) := by
  rw [comeRead_one h1 h2, rparse_one h1 h2]
  by_cases h : (rread p).2 = 0
  · rw [if_pos h, if_pos h]
    exact ⟨fun _ => ⟨_, rfl, rfl⟩, fun h' => absurd rfl h'⟩
  · rw [if_neg h, if_neg h]
    exact ⟨fun h' => absurd h' h, fun _ => rfl⟩

end Go.Proofs.YtehgpibngalhfaaGreatDoor.Df
