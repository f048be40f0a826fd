/- seq: writes that wait, plain. -/
import Derived.Test.YtmgfgfkkhcibcaaD0
namespace Go.Proofs.Ytmgfgfkkhcibcaa.Se
open Go Go.RowKit

structure Wr where
  st : Int
  win : Int
  key : ByteArray
  val : Int
deriving DecidableEq
def wC (x : Wr) : List Value := [.int .i64 x.st, .int .i64 x.win, .string x.key, .int .i64 x.val]
theorem wC_len (x : Wr) : (wC x).length = 4 := rfl
theorem wC_one (x : Wr) : ∀ v ∈ wC x, v.oneCell' = true := by
  intro v hv
  simp [wC] at hv
  rcases hv with rfl | rfl | rfl | rfl <;> rfl
def wV (x : Wr) : Value := .agg #[.int .i64 x.st, .int .i64 x.win, .string x.key, .int .i64 x.val]
abbrev WRow := GRow wC 4
abbrev WAt := GAt wC 4
abbrev WLies := GLies wC 4
theorem w_at {w : World} {b o : Nat} {l : List Wr} (h : WLies w b o l) (i : Nat) (hi : i < l.length) :
    w.cell? ⟨b, o + i * 4, none⟩ = some (.int .i64 (l[i]).st) ∧ w.cell? ⟨b, o + i * 4 + 1, none⟩ = some (.int .i64 (l[i]).win) ∧ w.cell? ⟨b, o + i * 4 + 2, none⟩ = some (.string (l[i]).key) ∧ w.cell? ⟨b, o + i * 4 + 3, none⟩ = some (.int .i64 (l[i]).val) :=
  ⟨h i hi 0 _ rfl, h i hi 1 _ rfl, h i hi 2 _ rfl, h i hi 3 _ rfl⟩

/-! ### queues in order -/
def rightFrom : Int → List Wr → Bool
  | _, [] => true
  | a, x :: r => decide (a < x.st) && (decide (x.st ≤ 1000000000000000) && rightFrom x.st r)
def rightQ (l : List Wr) : Bool := rightFrom 0 l
theorem rightFrom_cons {a : Int} {x : Wr} {r : List Wr} : rightFrom a (x :: r) = true ↔ a < x.st ∧ x.st ≤ 1000000000000000 ∧ rightFrom x.st r = true := by
  rw [rightFrom, Bool.and_eq_true, Bool.and_eq_true, decide_eq_true_eq, decide_eq_true_eq]
theorem rightFrom_low {a b : Int} {l : List Wr} (h : rightFrom a l = true) (hb : b ≤ a) : rightFrom b l = true := by
  cases l with
  | nil => rfl
  | cons x r =>
    obtain ⟨h1, h2, h3⟩ := rightFrom_cons.1 h
    exact rightFrom_cons.2 ⟨by omega, h2, h3⟩
theorem rightFrom_all {l : List Wr} : ∀ {a : Int}, rightFrom a l = true → ∀ x ∈ l, a < x.st ∧ x.st ≤ 1000000000000000 := by
  induction l with
  | nil => intro a _ x hx; cases hx
  | cons y r ih =>
    intro a h x hx
    obtain ⟨h1, h2, h3⟩ := rightFrom_cons.1 h
    rcases List.mem_cons.1 hx with rfl | hx
    · exact ⟨h1, h2⟩
    · obtain ⟨g1, g2⟩ := ih h3 x hx
      exact ⟨by omega, g2⟩
def pushQ (q m : List Wr) : List Wr × Int := if rightQ (q ++ m) then (q ++ m, 0) else ([], 9)
def zeroW : Wr := ⟨0, 0, ⟨#[]⟩, 0⟩
def popQ : List Wr → Wr × List Wr × Bool
  | [] => (zeroW, [], false)
  | x :: r => (x, r, true)
def sameQ (l m : List Wr) : Bool := decide (l = m)

/-! ### the stable stamp -/
def stepL (m : Option Int) (q : List Wr) : Option Int :=
  match q with
  | [] => m
  | x :: _ => match m with
    | none => some x.st
    | some y => if x.st < y then some x.st else some y
def least (L : List (List Wr)) : Option Int := L.foldl stepL none
def stable (last : Int) (L : List (List Wr)) : Int := match least L with | none => last | some m => m - 1
theorem least_take {L : List (List Wr)} {k : Nat} (h : k < L.length) : least (L.take (k + 1)) = stepL (least (L.take k)) L[k] := by
  rw [least, List.take_succ_eq_append_getElem h, List.foldl_append]; rfl
theorem fold_le : ∀ (L : List (List Wr)) (m : Option Int) (v : Int), L.foldl stepL m = some v → (∀ y, m = some y → v ≤ y) ∧ ∀ q ∈ L, ∀ y s, q = y :: s → v ≤ y.st := by
  intro L
  induction L with
  | nil => intro m v h; refine ⟨fun y hy => ?_, fun q hq => (by cases hq)⟩; rw [List.foldl_nil] at h; rw [h] at hy; injection hy with hy; omega
  | cons q L ih =>
    intro m v h
    obtain ⟨h1, h2⟩ := ih _ v h
    cases q with
    | nil =>
      refine ⟨h1, fun q' hq' y s e => ?_⟩
      rcases List.mem_cons.1 hq' with rfl | hq'
      · cases e
      · exact h2 q' hq' y s e
    | cons x r =>
      have h3 : (∀ y, m = some y → v ≤ y) ∧ v ≤ x.st := by
        cases m with
        | none => exact ⟨fun y hy => (by cases hy), h1 _ rfl⟩
        | some y0 =>
          by_cases hc : x.st < y0
          · have := h1 x.st (by simp [stepL, hc])
            exact ⟨fun y hy => (by injection hy with hy; omega), this⟩
          · have := h1 y0 (by simp [stepL, hc])
            exact ⟨fun y hy => (by injection hy with hy; omega), by omega⟩
      refine ⟨h3.1, fun q' hq' y s e => ?_⟩
      rcases List.mem_cons.1 hq' with rfl | hq'
      · injection e with e1 _; rw [← e1]; exact h3.2
      · exact h2 q' hq' y s e
theorem fold_in : ∀ (L : List (List Wr)) (m : Option Int) (v : Int), L.foldl stepL m = some v → m = some v ∨ ∃ q ∈ L, ∃ y s, q = y :: s ∧ y.st = v := by
  intro L
  induction L with
  | nil => intro m v h; exact .inl h
  | cons q L ih =>
    intro m v h
    rcases ih _ v h with h1 | ⟨q', hq', y, s, e⟩
    · cases q with
      | nil => exact .inl h1
      | cons x r =>
        cases m with
        | none => injection h1 with h1; exact .inr ⟨_, List.mem_cons_self, x, r, rfl, h1⟩
        | some y0 =>
          by_cases hc : x.st < y0
          · simp [stepL, hc] at h1; exact .inr ⟨_, List.mem_cons_self, x, r, rfl, h1⟩
          · simp [stepL, hc] at h1; exact .inl (by rw [h1])
    · exact .inr ⟨q', List.mem_cons_of_mem _ hq', y, s, e⟩
theorem fold_none : ∀ (L : List (List Wr)) (m : Option Int), L.foldl stepL m = none → m = none ∧ ∀ q ∈ L, q = [] := by
  intro L
  induction L with
  | nil => intro m h; exact ⟨h, fun q hq => (by cases hq)⟩
  | cons q L ih =>
    intro m h
    obtain ⟨h1, h2⟩ := ih _ h
    cases q with
    | nil =>
      refine ⟨h1, fun q hq => ?_⟩
      rcases List.mem_cons.1 hq with rfl | hq
      · rfl
      · exact h2 q hq
    | cons x r =>
      exfalso
      cases m with
      | none => cases h1
      | some y0 => by_cases hc : x.st < y0 <;> simp [stepL, hc] at h1
theorem least_none {L : List (List Wr)} (h : ∀ q ∈ L, q = []) : least L = none := by
  cases hl : least L with
  | none => rfl
  | some v =>
    rcases fold_in L none v hl with h1 | ⟨q, hq, y, s, e, _⟩
    · cases h1
    · rw [h q hq] at e; cases e
theorem least_some {L : List (List Wr)} {x : Wr} {r : List Wr} (hm : (x :: r) ∈ L) (hl : ∀ q ∈ L, ∀ y s, q = y :: s → x.st ≤ y.st) : least L = some x.st := by
  cases h : least L with
  | none => have := (fold_none L none h).2 _ hm; cases this
  | some v =>
    have h1 := (fold_le L none v h).2 _ hm x r rfl
    rcases fold_in L none v h with h2 | ⟨q, hq, y, s, e, hy⟩
    · cases h2
    · have := hl q hq y s e
      congr 1; omega

/-! ### what waits -/
def waits (win : Int) (L : List (List Wr)) : Bool := L.any fun q => q.any fun x => decide (x.win = win)
def pending (L : List (List Wr)) : Nat := (L.map List.length).sum
theorem pending_take {L : List (List Wr)} {k : Nat} (h : k < L.length) : pending (L.take (k + 1)) = pending (L.take k) + (L[k]).length := by
  rw [pending, List.take_succ_eq_append_getElem h, List.map_append, List.sum_append]; simp [pending]
def begins (L : List (List Wr)) : Bool := L.all fun q => match q with | [] => true | x :: _ => decide (1 ≤ x.st)
theorem begins_at {L : List (List Wr)} (h : begins L = true) {x : Wr} {r : List Wr} (hm : (x :: r) ∈ L) : 1 ≤ x.st := by
  have := List.all_eq_true.1 h _ hm
  simpa using this
def longQ (q : List Wr) : Bool := decide (100 < q.length)
def greatL (L : List (List Wr)) : Bool := decide (20 < L.length) || L.any longQ
theorem greatL_not {L : List (List Wr)} (h : greatL L = false) : L.length ≤ 20 ∧ ∀ q ∈ L, q.length ≤ 100 := by
  simp only [greatL, Bool.or_eq_false_iff, decide_eq_false_iff_not] at h
  refine ⟨by omega, fun q hq => ?_⟩
  have := List.any_eq_false.1 h.2 q hq
  simp only [longQ, decide_eq_true_eq] at this
  omega
theorem pending_le {L : List (List Wr)} (h : ∀ q ∈ L, q.length ≤ 100) : pending L ≤ L.length * 100 := by
  induction L with
  | nil => simp [pending]
  | cons q L ih =>
    have h1 := h q List.mem_cons_self
    have h2 := ih (fun q hq => h q (List.mem_cons_of_mem _ hq))
    simp only [pending, List.map_cons, List.sum_cons, List.length_cons] at *
    omega

/-! ### a pop of the least -/
def Good (last : Int) (L : List (List Wr)) : Prop := ∀ q ∈ L, rightFrom 0 q = true ∧ ∀ x ∈ q, x.st ≤ last
theorem good_set {last : Int} {L : List (List Wr)} (h : Good last L) {j : Nat} (hj : j < L.length) {x : Wr} {r : List Wr} (e : L[j] = x :: r) : Good last (L.set j r) := by
  intro q hq
  rcases List.mem_or_eq_of_mem_set hq with hq | rfl
  · exact h q hq
  · obtain ⟨h1, h2⟩ := h _ (List.getElem_mem hj)
    rw [e] at h1 h2
    obtain ⟨g1, g2, g3⟩ := rightFrom_cons.1 h1
    exact ⟨rightFrom_low g3 (by omega), fun y hy => h2 y (List.mem_cons_of_mem _ hy)⟩
theorem pending_set : ∀ {L : List (List Wr)} {j : Nat} (hj : j < L.length) {x : Wr} {r : List Wr} (_ : L[j] = x :: r), pending (L.set j r) + 1 = pending L := by
  intro L
  induction L with
  | nil => intro j hj; cases hj
  | cons q L ih =>
    intro j hj x r e
    cases j with
    | zero =>
      simp only [List.getElem_cons_zero] at e
      subst e
      simp [pending, List.set]; omega
    | succ j =>
      have := ih (j := j) (by simpa using hj) (x := x) (r := r) (by simpa using e)
      simp only [pending, List.set, List.map_cons, List.sum_cons] at *
      omega
theorem pending_pos {L : List (List Wr)} (h : 0 < pending L) : ∃ q ∈ L, q ≠ [] := by
  induction L with
  | nil => simp [pending] at h
  | cons q L ih =>
    cases q with
    | nil =>
      obtain ⟨q, hq, hn⟩ := ih (by simpa [pending] using h)
      exact ⟨q, List.mem_cons_of_mem _ hq, hn⟩
    | cons x r => exact ⟨_, List.mem_cons_self, by simp⟩
theorem pending_zero {L : List (List Wr)} (h : pending L = 0) : ∀ q ∈ L, q = [] := by
  induction L with
  | nil => intro q hq; cases hq
  | cons p L ih =>
    simp only [pending, List.map_cons, List.sum_cons] at h
    intro q hq
    rcases List.mem_cons.1 hq with rfl | hq
    · exact List.length_eq_zero_iff.1 (by omega)
    · exact ih (by simp only [pending]; omega) q hq
/-- The first of the queue j is the least: its stamp is the stable one's next, and the stable stamp doesn't fall when it is popped. -/
def LeastAt (L : List (List Wr)) (x : Wr) : Prop := ∀ q ∈ L, ∀ y s, q = y :: s → x.st ≤ y.st
theorem stable_at {last : Int} {L : List (List Wr)} {x : Wr} {r : List Wr} (hm : (x :: r) ∈ L) (hl : LeastAt L x) : stable last L = x.st - 1 := by
  rw [stable, least_some hm hl]
theorem stable_rises {last : Int} {L : List (List Wr)} (h : Good last L) {j : Nat} (hj : j < L.length) {x : Wr} {r : List Wr} (e : L[j] = x :: r) (hl : LeastAt L x) : x.st - 1 ≤ stable last (L.set j r) := by
  have hx : (x :: r) ∈ L := e ▸ List.getElem_mem hj
  have hG := h _ hx
  cases hL : least (L.set j r) with
  | none =>
    rw [stable, hL]
    have := hG.2 x List.mem_cons_self
    show x.st - 1 ≤ last
    omega
  | some m =>
    rw [stable, hL]
    show x.st - 1 ≤ m - 1
    rcases fold_in _ none m hL with h1 | ⟨q, hq, y, s, e2, hy⟩
    · cases h1
    · rcases List.mem_or_eq_of_mem_set hq with hq | rfl
      · have := hl q hq y s e2
        omega
      · have h3 := rightFrom_cons.1 hG.1
        rw [e2] at h3
        have := (rightFrom_cons.1 h3.2.2).1
        omega
theorem stable_end {last : Int} {L : List (List Wr)} (h : pending L = 0) : stable last L = last := by
  rw [stable, least_none (pending_zero h)]
end Go.Proofs.Ytmgfgfkkhcibcaa.Se
