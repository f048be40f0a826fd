/- pin: readers and their stamps, plain. -/
import Derived.Test.YtigkpfdbbifcgaaD0
namespace Go.Proofs.Ytigkpfdbbifcgaa.Pj
open Go Go.RowKit

structure Pn where
  id : Int
  st : Int
deriving DecidableEq
def pC (x : Pn) : List Value := [.int .i64 x.id, .int .i64 x.st]
theorem pC_len (x : Pn) : (pC x).length = 2 := rfl
theorem pC_one (x : Pn) : ∀ v ∈ pC x, v.oneCell' = true := by
  intro v hv
  simp [pC] at hv
  rcases hv with rfl | rfl <;> rfl
abbrev PRow := GRow pC 2
abbrev PAt := GAt pC 2
abbrev PLies := GLies pC 2
theorem p_at {w : World} {b o : Nat} {l : List Pn} (h : PLies w b o l) (i : Nat) (hi : i < l.length) :
    w.cell? ⟨b, o + i * 2, none⟩ = some (.int .i64 (l[i]).id) ∧ w.cell? ⟨b, o + i * 2 + 1, none⟩ = some (.int .i64 (l[i]).st) :=
  ⟨h i hi 0 _ rfl, h i hi 1 _ rfl⟩

/-! ### in order -/
def rightFrom : Option Int → List Pn → Bool
  | _, [] => true
  | none, x :: r => decide (0 ≤ x.st) && rightFrom (some x.id) r
  | some a, x :: r => decide (0 ≤ x.st) && (decide (a < x.id) && rightFrom (some x.id) r)
def rightP (l : List Pn) : Bool := rightFrom none l
theorem rightFrom_none {x : Pn} {r : List Pn} : rightFrom none (x :: r) = true ↔ 0 ≤ x.st ∧ rightFrom (some x.id) r = true := by
  rw [rightFrom, Bool.and_eq_true, decide_eq_true_eq]
theorem rightFrom_some {a : Int} {x : Pn} {r : List Pn} : rightFrom (some a) (x :: r) = true ↔ 0 ≤ x.st ∧ a < x.id ∧ rightFrom (some x.id) r = true := by
  rw [rightFrom, Bool.and_eq_true, Bool.and_eq_true, decide_eq_true_eq, decide_eq_true_eq]
theorem rightFrom_low {a b : Int} {l : List Pn} (h : rightFrom (some a) l = true) (hb : b ≤ a) : rightFrom (some b) l = true := by
  cases l with
  | nil => rfl
  | cons x r =>
    obtain ⟨h1, h2, h3⟩ := rightFrom_some.1 h
    exact rightFrom_some.2 ⟨h1, by omega, h3⟩
theorem rightFrom_free {a : Int} {l : List Pn} (h : rightFrom (some a) l = true) : rightFrom none l = true := by
  cases l with
  | nil => rfl
  | cons x r => exact rightFrom_none.2 ⟨(rightFrom_some.1 h).1, (rightFrom_some.1 h).2.2⟩

/-! ### one more -/
/-- How many at the head have lower Ids. -/
def idxP (id : Int) : List Pn → Nat
  | [] => 0
  | y :: r => if y.id < id then idxP id r + 1 else 0
theorem idxP_le (id : Int) (l : List Pn) : idxP id l ≤ l.length := by
  induction l with
  | nil => exact Nat.le_refl _
  | cons y r ih => unfold idxP; split <;> simp <;> omega
theorem idxP_low {id : Int} : ∀ {l : List Pn} {i : Nat} (h : i < l.length), i < idxP id l → (l[i]).id < id := by
  intro l
  induction l with
  | nil => intro i h; cases h
  | cons y r ih =>
    intro i h hi
    unfold idxP at hi
    split at hi
    · cases i with
      | zero => assumption
      | succ i => exact ih (by simpa using h) (by omega)
    · omega
theorem idxP_at {id : Int} : ∀ {l : List Pn} (h : idxP id l < l.length), ¬ (l[idxP id l]).id < id := by
  intro l
  induction l with
  | nil => intro h; cases h
  | cons y r ih =>
    intro h
    unfold idxP at h ⊢
    by_cases hc : y.id < id
    · simp only [if_pos hc] at h ⊢
      simpa using ih (by simpa using h)
    · simp only [if_neg hc]
      simpa using hc
theorem idxP_of {id : Int} {l : List Pn} {j : Nat} (hj : j ≤ l.length) (h1 : ∀ i (h : i < l.length), i < j → (l[i]).id < id) (h2 : ∀ h : j < l.length, ¬ (l[j]).id < id) : idxP id l = j := by
  rcases Nat.lt_trichotomy (idxP id l) j with h | h | h
  · exact absurd (h1 _ (by omega) h) (idxP_at (by omega))
  · exact h
  · have := idxP_le id l
    exact absurd (idxP_low (by omega) h) (h2 (by omega))
def putP (l : List Pn) (x : Pn) : List Pn := l.take (idxP x.id l) ++ x :: l.drop (idxP x.id l)
theorem putP_len (l : List Pn) (x : Pn) : (putP l x).length = l.length + 1 := by
  unfold putP
  rw [List.length_append, List.length_cons, List.length_take, List.length_drop]
  have := idxP_le x.id l
  omega
/-- Is one of that Id there, in its place? -/
def twice (l : List Pn) (id : Int) : Bool := match l[idxP id l]? with | none => false | some y => decide (y.id = id)
def stepP (l : List Pn) (x : Pn) : List Pn × Int := if x.st < 0 then ([], 1) else if twice l x.id = true then ([], 5) else (putP l x, 0)
def addAll : List Pn → List Pn → List Pn × Int
  | l, [] => (l, 0)
  | l, x :: r => if (stepP l x).2 = 0 then addAll (stepP l x).1 r else ([], (stepP l x).2)
def addP (l p : List Pn) : List Pn × Int := if rightP l then addAll l p else ([], 9)

/-! ### one less, one found -/
def idxF (id : Int) : List Pn → Nat
  | [] => 0
  | y :: r => if y.id = id then 0 else idxF id r + 1
def dropP (l : List Pn) (id : Int) : List Pn × Int := if idxF id l < l.length then (l.eraseIdx (idxF id l), 0) else ([], 6)
def findP (l : List Pn) (id : Int) : Int × Bool := match l[idxF id l]? with | none => (0, false) | some y => (y.st, true)
theorem idxF_le (id : Int) (l : List Pn) : idxF id l ≤ l.length := by
  induction l with
  | nil => exact Nat.le_refl _
  | cons y r ih => unfold idxF; split <;> simp <;> omega
theorem idxF_of {id : Int} : ∀ {l : List Pn} {j : Nat} (_ : j ≤ l.length) (_ : ∀ i (h : i < l.length), i < j → ¬ (l[i]).id = id) (_ : ∀ h : j < l.length, (l[j]).id = id), idxF id l = j := by
  intro l
  induction l with
  | nil => intro j hj _ _; simp at hj; subst hj; rfl
  | cons y r ih =>
    intro j hj h1 h2
    unfold idxF
    cases j with
    | zero => exact if_pos (h2 (by simp))
    | succ j =>
      rw [if_neg (show ¬ y.id = id from h1 0 (by simp) (by omega)), ih (by simpa using hj) (fun i h hi => h1 (i + 1) (by simpa using h) (by omega)) (fun h => h2 (by simpa using h))]
def floorP (s : Int) (l : List Pn) : Int := l.foldl (fun s x => if x.st < s then x.st else s) s
theorem floorP_take {s : Int} {l : List Pn} {k : Nat} (h : k < l.length) : floorP s (l.take (k + 1)) = if (l[k]).st < floorP s (l.take k) then (l[k]).st else floorP s (l.take k) := by
  rw [floorP, List.take_succ_eq_append_getElem h, List.foldl_append]; rfl
theorem floorP_snoc (s : Int) (l : List Pn) (x : Pn) : floorP s (l ++ [x]) = if x.st < floorP s l then x.st else floorP s l := by
  rw [floorP, List.foldl_append]; rfl
def sameP (l m : List Pn) : Bool := decide (l = m)

/-! ### there and back -/
theorem put_at (l : List Pn) (x : Pn) : (putP l x)[idxP x.id l]? = some x := by
  unfold putP
  have := idxP_le x.id l
  rw [List.getElem?_append_right (by rw [List.length_take]; omega), List.length_take, Nat.min_eq_left this, Nat.sub_self]
  rfl
theorem put_idxF (l : List Pn) (x : Pn) : idxF x.id (putP l x) = idxP x.id l := by
  have hle := idxP_le x.id l
  refine idxF_of (by rw [putP_len]; omega) (fun i h hi e => ?_) (fun h => ?_)
  · have hl : i < l.length := by omega
    have e2 : (putP l x)[i]? = l[i]? := by
      unfold putP
      rw [List.getElem?_append_left (by rw [List.length_take]; omega), List.getElem?_take_of_lt hi]
    rw [List.getElem?_eq_getElem h, List.getElem?_eq_getElem hl] at e2
    injection e2 with e2
    rw [e2] at e
    have := idxP_low hl hi
    omega
  · have e2 := put_at l x
    rw [List.getElem?_eq_getElem h] at e2
    injection e2 with e2
    rw [e2]
theorem put_find (l : List Pn) (x : Pn) : findP (putP l x) x.id = (x.st, true) := by
  unfold findP
  rw [put_idxF, put_at]
theorem put_drop (l : List Pn) (x : Pn) : dropP (putP l x) x.id = (l, 0) := by
  have hle := idxP_le x.id l
  unfold dropP
  rw [put_idxF, putP_len, if_pos (by omega)]
  congr 1
  unfold putP
  rw [List.eraseIdx_append_of_length_le (by rw [List.length_take]; omega), List.length_take, Nat.min_eq_left hle, Nat.sub_self]
  exact List.take_append_drop _ _
theorem put_right : ∀ {l : List Pn} {x : Pn} (_ : 0 ≤ x.st) (_ : twice l x.id = false) {a : Option Int} (_ : ∀ b, a = some b → b < x.id) (_ : rightFrom a l = true), rightFrom a (putP l x) = true := by
  intro l
  induction l with
  | nil =>
    intro x hx _ a ha _
    cases a with
    | none => exact rightFrom_none.2 ⟨hx, rfl⟩
    | some b => exact rightFrom_some.2 ⟨hx, ha b rfl, rfl⟩
  | cons y r ih =>
    intro x hx ht a ha hr
    by_cases hc : y.id < x.id
    · have ht2 : twice r x.id = false := by
        unfold twice at ht ⊢
        unfold idxP at ht
        rw [if_pos hc] at ht
        simpa using ht
      have e : putP (y :: r) x = y :: putP r x := by
        unfold putP
        rw [idxP, if_pos hc]
        rfl
      rw [e]
      cases a with
      | none =>
        obtain ⟨h1, h2⟩ := rightFrom_none.1 hr
        exact rightFrom_none.2 ⟨h1, ih hx ht2 (fun b hb => by injection hb with hb; omega) h2⟩
      | some b =>
        obtain ⟨h1, h2, h3⟩ := rightFrom_some.1 hr
        exact rightFrom_some.2 ⟨h1, h2, ih hx ht2 (fun b hb => by injection hb with hb; omega) h3⟩
    · have hne : ¬ y.id = x.id := by
        intro e
        unfold twice idxP at ht
        rw [if_neg hc] at ht
        simp [e] at ht
      have e : putP (y :: r) x = x :: y :: r := by
        unfold putP
        rw [idxP, if_neg hc]
        rfl
      rw [e]
      have h4 : rightFrom (some x.id) (y :: r) = true := by
        cases a with
        | none =>
          obtain ⟨h1, h2⟩ := rightFrom_none.1 hr
          exact rightFrom_some.2 ⟨h1, by omega, h2⟩
        | some b =>
          obtain ⟨h1, h2, h3⟩ := rightFrom_some.1 hr
          exact rightFrom_some.2 ⟨h1, by omega, h3⟩
      cases a with
      | none => exact rightFrom_none.2 ⟨hx, h4⟩
      | some b => exact rightFrom_some.2 ⟨hx, ha b rfl, h4⟩
/-- One that was added. -/
theorem add_one {l : List Pn} {x : Pn} (h : (addP l [x]).2 = 0) : (addP l [x]).1 = putP l x ∧ rightP (putP l x) = true := by
  unfold addP at h ⊢
  cases hr : rightP l
  · rw [hr] at h; simp at h
  · simp only [hr, if_true, addAll] at h ⊢
    unfold stepP at h ⊢
    by_cases h1 : x.st < 0
    · simp [h1] at h
    · by_cases h2 : twice l x.id = true
      · simp [h1, h2] at h
      · simp only [if_neg h1, if_neg h2, if_true]
        exact ⟨trivial, put_right (by omega) (by simpa using h2) (fun b hb => by cases hb) hr⟩
theorem add_bad {l p : List Pn} (h : ¬ (addP l p).2 = 0) : (addP l p).1 = [] := by
  unfold addP at h ⊢
  split
  · rename_i hr
    rw [if_pos hr] at h
    clear hr
    induction p generalizing l with
    | nil => exact absurd rfl h
    | cons x r ih =>
      unfold addAll at h ⊢
      split
      · rename_i h0
        rw [if_pos h0] at h
        exact ih h
      · rfl
  · rfl
theorem addAll_len : ∀ (p l : List Pn), (addAll l p).1.length ≤ l.length + p.length := by
  intro p
  induction p with
  | nil => intro l; exact Nat.le_refl _
  | cons x r ih =>
    intro l
    unfold addAll
    split
    · have h1 := ih (stepP l x).1
      have h2 : (stepP l x).1.length ≤ l.length + 1 := by
        unfold stepP
        split
        · exact Nat.zero_le _
        · split
          · exact Nat.zero_le _
          · rw [putP_len]; exact Nat.le_refl _
      simp only [List.length_cons]
      omega
    · exact Nat.zero_le _
theorem addP_len (l p : List Pn) : (addP l p).1.length ≤ l.length + p.length := by
  unfold addP
  split
  · exact addAll_len p l
  · exact Nat.zero_le _
theorem dropP_len (l : List Pn) (id : Int) : (dropP l id).1.length ≤ l.length := by
  unfold dropP
  split
  · exact List.length_eraseIdx_le _ _
  · exact Nat.zero_le _
theorem floor_more (s : Int) (l : List Pn) (x : Pn) : floorP s (l ++ [x]) ≤ floorP s l ∧ (floorP s (l ++ [x]) = floorP s l ∨ floorP s (l ++ [x]) = x.st) := by
  rw [floorP_snoc]
  split
  · exact ⟨by omega, Or.inr rfl⟩
  · exact ⟨Int.le_refl _, Or.inl rfl⟩
end Go.Proofs.Ytigkpfdbbifcgaa.Pj
