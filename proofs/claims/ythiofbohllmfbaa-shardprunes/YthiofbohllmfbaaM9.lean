/- Plain mathematics of versions: in order, what they tell at a stamp, some more put behind, pruned; no program, no conditions. -/
import Derived.Test.YthiofbohllmfbaaMC
namespace Go.Proofs.Ythiofbohllmfbaa.Ch
open Cl

/-- A version: its stamp, its cell. -/
structure Ver where
  st : Int
  c : Cell
def zver : Ver := ⟨0, zero⟩
instance : Inhabited Ver := ⟨zver⟩
def okV (v : Ver) : Prop := ok64 v.st ∧ okC v.c
theorem ver_ext {a b : Ver} (h1 : a.st = b.st) (h2 : a.c.cnt = b.c.cnt) (h3 : a.c.sn = b.c.sn) (h4 : a.c.so = b.c.so) (h5 : a.c.mn = b.c.mn) (h6 : a.c.mx = b.c.mx) : a = b := by
  obtain ⟨a1, a2, a3, a4, a5, a6⟩ := a
  obtain ⟨b1, b2, b3, b4, b5, b6⟩ := b
  simp only at h1 h2 h3 h4 h5 h6
  subst h1 h2 h3 h4 h5 h6; rfl
def eqC (a b : Cell) : Bool := decide (a.cnt = b.cnt) && decide (a.sn = b.sn) && (a.so == b.so) && decide (a.mn = b.mn) && decide (a.mx = b.mx)
theorem eqC_true (a b : Cell) : eqC a b = true ↔ a = b := by
  unfold eqC
  simp only [Bool.and_eq_true, decide_eq_true_eq, beq_iff_eq]
  constructor
  · rintro ⟨⟨⟨⟨h1, h2⟩, h3⟩, h4⟩, h5⟩
    obtain ⟨a2, a3, a4, a5, a6⟩ := a
    obtain ⟨b2, b3, b4, b5, b6⟩ := b
    simp only at h1 h2 h3 h4 h5
    subst h1 h2 h3 h4 h5; rfl
  · rintro rfl; exact ⟨⟨⟨⟨rfl, rfl⟩, rfl⟩, rfl⟩, rfl⟩
def eqV (a b : Ver) : Bool := decide (a.st = b.st) && decide (a.c.cnt = b.c.cnt) && decide (a.c.sn = b.c.sn) && (a.c.so == b.c.so) && decide (a.c.mn = b.c.mn) && decide (a.c.mx = b.c.mx)
theorem eqV_true (a b : Ver) : eqV a b = true ↔ a = b := by
  unfold eqV
  simp only [Bool.and_eq_true, decide_eq_true_eq, beq_iff_eq]
  constructor
  · rintro ⟨⟨⟨⟨⟨h1, h2⟩, h3⟩, h4⟩, h5⟩, h6⟩; exact ver_ext h1 h2 h3 h4 h5 h6
  · rintro rfl; exact ⟨⟨⟨⟨⟨rfl, rfl⟩, rfl⟩, rfl⟩, rfl⟩, rfl⟩
def sameV (a b : List Ver) : Bool := decide (a.length = b.length) && (List.range a.length).all fun i => eqV (a.getD i zver) (b.getD i zver)
theorem sameV_true (a b : List Ver) : sameV a b = true ↔ a = b := by
  unfold sameV
  simp only [Bool.and_eq_true, decide_eq_true_eq, List.all_eq_true, List.mem_range, eqV_true]
  constructor
  · rintro ⟨h1, h2⟩
    apply List.ext_getElem h1
    intro i hi hj
    have := h2 i hi
    simpa [List.getD, hi, hj] using this
  · rintro rfl; exact ⟨rfl, fun _ _ => rfl⟩

/-! ### in order -/
def inR (v : Ver) : Bool := decide (1 ≤ v.st) && decide (v.st ≤ 1000000000000000)
def vrise : List Ver → Bool
  | a :: b :: r => decide (a.st < b.st) && vrise (b :: r)
  | _ => true
theorem vrise_nil : vrise [] = true := by rw [vrise]; simp
theorem vrise_one (a : Ver) : vrise [a] = true := by rw [vrise]; simp
theorem vrise_cons (a b : Ver) (r : List Ver) : vrise (a :: b :: r) = (decide (a.st < b.st) && vrise (b :: r)) := by rw [vrise]
theorem vrise_iff : ∀ l : List Ver, vrise l = true ↔ ∀ i (h : i + 1 < l.length), (l[i]'(by omega)).st < (l[i + 1]).st
  | [] => by simp [vrise_nil]
  | [a] => by simp [vrise_one]
  | a :: b :: r => by
    rw [vrise_cons, Bool.and_eq_true, decide_eq_true_eq, vrise_iff (b :: r)]
    constructor
    · rintro ⟨h1, h2⟩ i hi
      cases i with
      | zero => exact h1
      | succ i => exact h2 i (by simpa using hi)
    · intro h
      exact ⟨h 0 (by simp), fun i hi => h (i + 1) (by simpa using hi)⟩
theorem vrise_pairwise : ∀ l : List Ver, vrise l = true ↔ l.Pairwise fun a b => a.st < b.st
  | [] => by simp [vrise_nil]
  | [a] => by simp [vrise_one]
  | a :: b :: r => by
    rw [vrise_cons, Bool.and_eq_true, decide_eq_true_eq, vrise_pairwise (b :: r)]
    constructor
    · rintro ⟨h1, h2⟩
      refine List.pairwise_cons.2 ⟨fun c hc => ?_, h2⟩
      rcases List.mem_cons.1 hc with rfl | hc
      · exact h1
      · exact Int.lt_trans h1 ((List.pairwise_cons.1 h2).1 c hc)
    · intro h
      obtain ⟨h1, h2⟩ := List.pairwise_cons.1 h
      exact ⟨h1 b (by simp), h2⟩
def vright (l : List Ver) : Bool := l.all inR && vrise l
/-- What is wrong at one place. -/
def badAt (l : List Ver) (i : Nat) (h : i < l.length) : Prop := inR l[i] = false ∨ (0 < i ∧ ∃ h' : i - 1 < l.length, (l[i]).st ≤ (l[i - 1]).st)
theorem vright_not {l : List Ver} {k : Nat} (hk : k < l.length) (h : badAt l k hk) : vright l = false := by
  unfold vright
  rcases h with h | ⟨h0, h', h⟩
  · have : l.all inR = false := by
      rw [List.all_eq_false]; exact ⟨l[k], List.getElem_mem hk, by simp [h]⟩
    rw [this]; rfl
  · have : vrise l = false := by
      cases hc : vrise l
      · rfl
      · have e : k - 1 + 1 = k := by omega
        have h2 := (vrise_iff l).1 hc (k - 1) (by omega)
        simp only [e] at h2
        omega
    rw [this, Bool.and_false]
theorem vright_all {l : List Ver} (h : ∀ k (hk : k < l.length), inR l[k] = true ∧ (0 < k → ∃ h' : k - 1 < l.length, (l[k - 1]).st < (l[k]).st)) : vright l = true := by
  unfold vright
  rw [Bool.and_eq_true]
  refine ⟨?_, (vrise_iff l).2 fun i hi => ?_⟩
  · rw [List.all_eq_true]; intro x hx
    obtain ⟨i, hi, rfl⟩ := List.mem_iff_getElem.1 hx
    exact (h i hi).1
  · obtain ⟨_, h2⟩ := (h (i + 1) hi).2 (by omega)
    simpa using h2
theorem vright_true {l : List Ver} : vright l = true ↔ (∀ v ∈ l, inR v = true) ∧ l.Pairwise fun a b => a.st < b.st := by
  unfold vright; rw [Bool.and_eq_true, List.all_eq_true, vrise_pairwise]
theorem vright_sub {l m : List Ver} (h : vright l = true) (hs : m.Sublist l) : vright m = true := by
  rw [vright_true] at *
  exact ⟨fun v hv => h.1 v (hs.subset hv), h.2.sublist hs⟩

/-! ### at a stamp -/
def atS (l : List Ver) (s : Int) : Cell := l.foldl (fun c v => if v.st ≤ s then v.c else c) zero
theorem atS_nil (s : Int) : atS [] s = zero := rfl
theorem atS_snoc (l : List Ver) (v : Ver) (s : Int) : atS (l ++ [v]) s = if v.st ≤ s then v.c else atS l s := by
  unfold atS; rw [List.foldl_append]; rfl
theorem atS_next {l : List Ver} {k : Nat} (hk : k < l.length) (s : Int) : atS (l.take (k + 1)) s = if (l[k]).st ≤ s then (l[k]).c else atS (l.take k) s := by
  rw [List.take_succ_eq_append_getElem hk, atS_snoc]
/-- By the last one that is not behind the stamp. -/
theorem atS_back {l : List Ver} {k : Nat} {s : Int} (hk : k < l.length) (h1 : (l[k]).st ≤ s) (h2 : ∀ j (hj : j < l.length), k < j → ¬ (l[j]).st ≤ s) : atS l s = (l[k]).c := by
  have key : ∀ n, k + 1 + n ≤ l.length → atS (l.take (k + 1 + n)) s = (l[k]).c := by
    intro n
    induction n with
    | zero => intro _; rw [Nat.add_zero, atS_next hk, if_pos h1]
    | succ n ih =>
      intro hn
      have := atS_next (l := l) (k := k + 1 + n) (by omega) s
      rw [show k + 1 + (n + 1) = k + 1 + n + 1 by omega, this, if_neg (h2 _ (by omega) (by omega)), ih (by omega)]
  have := key (l.length - (k + 1)) (by omega)
  rwa [show k + 1 + (l.length - (k + 1)) = l.length by omega, List.take_of_length_le (Nat.le_refl _)] at this
theorem atS_none {l : List Ver} {s : Int} (h : ∀ v ∈ l, ¬ v.st ≤ s) : atS l s = zero := by
  revert h
  refine snoc_ind (P := fun l => (∀ v ∈ l, ¬ v.st ≤ s) → atS l s = zero) (fun _ => rfl) (fun l v ih h => ?_) l
  show atS (l ++ [v]) s = zero
  rw [atS_snoc, if_neg (h v (by simp)), ih (fun x hx => h x (by simp [hx]))]
theorem atS_append {l m : List Ver} {s : Int} (h : ∀ v ∈ m, ¬ v.st ≤ s) : atS (l ++ m) s = atS l s := by
  revert h
  refine snoc_ind (P := fun m => (∀ v ∈ m, ¬ v.st ≤ s) → atS (l ++ m) s = atS l s) (fun _ => by rw [List.append_nil]) (fun m v ih h => ?_) m
  show atS (l ++ (m ++ [v])) s = atS l s
  rw [← List.append_assoc, atS_snoc, if_neg (h v (by simp)), ih (fun x hx => h x (by simp [hx]))]
theorem atS_tail {C D : List Ver} {s : Int} (h : atS C s = atS D s) (B : List Ver) : atS (C ++ B) s = atS (D ++ B) s := by
  refine snoc_ind (P := fun B => atS (C ++ B) s = atS (D ++ B) s) (by rw [List.append_nil, List.append_nil]; exact h) (fun B v ih => ?_) B
  show atS (C ++ (B ++ [v])) s = atS (D ++ (B ++ [v])) s
  rw [← List.append_assoc, ← List.append_assoc, atS_snoc, atS_snoc, ih]
theorem atS_ok {l : List Ver} (h : ∀ v ∈ l, okV v) (s : Int) : okC (atS l s) := by
  revert h
  refine snoc_ind (P := fun l => (∀ v ∈ l, okV v) → okC (atS l s)) (fun _ => ok_zero) (fun l v ih h => ?_) l
  show okC (atS (l ++ [v]) s)
  rw [atS_snoc]
  split
  · exact (h v (by simp)).2
  · exact ih (fun x hx => h x (by simp [hx]))

/-! ### the last one; some more -/
def lastS (l : List Ver) : Int := (l.getLast?.map fun v => v.st).getD 0
def lastC (l : List Ver) : Cell := (l.getLast?.map fun v => v.c).getD zero
theorem lastS_nil : lastS [] = 0 := rfl
theorem lastC_nil : lastC [] = zero := rfl
theorem lastS_snoc (l : List Ver) (v : Ver) : lastS (l ++ [v]) = v.st := by simp [lastS]
theorem lastC_snoc (l : List Ver) (v : Ver) : lastC (l ++ [v]) = v.c := by simp [lastC]
theorem lastS_at {l : List Ver} (h : 0 < l.length) : lastS l = (l[l.length - 1]'(by omega)).st := by
  unfold lastS; rw [List.getLast?_eq_getElem?, List.getElem?_eq_getElem (by omega)]; rfl
theorem lastC_at {l : List Ver} (h : 0 < l.length) : lastC l = (l[l.length - 1]'(by omega)).c := by
  unfold lastC; rw [List.getLast?_eq_getElem?, List.getElem?_eq_getElem (by omega)]; rfl
def putV (l more : List Ver) : List Ver × Int := if vright (l ++ more) then (l ++ more, 0) else ([], 9)
theorem putV_ok {l more : List Ver} (h : vright (l ++ more) = true) : putV l more = (l ++ more, 0) := by unfold putV; rw [if_pos h]
theorem putV_no {l more : List Ver} (h : vright (l ++ more) = false) : putV l more = ([], 9) := by unfold putV; rw [if_neg (by simp [h])]
def foldV (l : List Ver) (s v : Int) : List Ver × Int := putV l [⟨s, fold (lastC l) v⟩]

/-! ### pruned -/
/-- Where the last one of a stamp up to the floor stands; below 0: nowhere. -/
def lastI : List Ver → Nat → Int → Int
  | _, 0, _ => -1
  | l, k + 1, f => if (l.getD k zver).st ≤ f then (k : Int) else lastI l k f
theorem lastI_zero (l : List Ver) (f : Int) : lastI l 0 f = -1 := by rw [lastI]
theorem lastI_next {l : List Ver} {k : Nat} (hk : k < l.length) (f : Int) : lastI l (k + 1) f = if (l[k]).st ≤ f then (k : Int) else lastI l k f := by
  rw [lastI]; simp [List.getD, hk]
theorem lastI_cases (l : List Ver) (f : Int) : ∀ k, k ≤ l.length → (lastI l k f = -1 ∧ ∀ j (hj : j < l.length), j < k → ¬ (l[j]).st ≤ f) ∨ ∃ (i : Nat) (hi : i < l.length), i < k ∧ lastI l k f = (i : Int) ∧ (l[i]).st ≤ f ∧ ∀ j (hj : j < l.length), i < j → j < k → ¬ (l[j]).st ≤ f
  | 0, _ => Or.inl ⟨lastI_zero l f, fun j _ hj => by omega⟩
  | k + 1, hk => by
    rw [lastI_next (show k < l.length by omega)]
    by_cases h : (l[k]'(by omega)).st ≤ f
    · rw [if_pos h]
      exact Or.inr ⟨k, by omega, by omega, rfl, h, fun j hj h1 h2 => by omega⟩
    · rw [if_neg h]
      rcases lastI_cases l f k (by omega) with ⟨h1, h2⟩ | ⟨i, hi, h1, h2, h3, h4⟩
      · refine Or.inl ⟨h1, fun j hj hjk => ?_⟩
        by_cases q : j = k
        · subst q; exact h
        · exact h2 j hj (by omega)
      · refine Or.inr ⟨i, hi, by omega, h2, h3, fun j hj h5 h6 => ?_⟩
        by_cases q : j = k
        · subst q; exact h
        · exact h4 j hj h5 (by omega)
/-- What is left of the first k. -/
def pruneTo (l : List Ver) (f : Int) : Nat → List Ver
  | 0 => []
  | k + 1 => if f < (l.getD k zver).st ∨ (k : Int) = lastI l l.length f then pruneTo l f k ++ [l.getD k zver] else pruneTo l f k
theorem pruneTo_zero (l : List Ver) (f : Int) : pruneTo l f 0 = [] := by rw [pruneTo]
theorem pruneTo_next {l : List Ver} {k : Nat} (hk : k < l.length) (f : Int) : pruneTo l f (k + 1) = if f < (l[k]).st ∨ (k : Int) = lastI l l.length f then pruneTo l f k ++ [l[k]] else pruneTo l f k := by
  rw [pruneTo]; simp [List.getD, hk]
def prune (l : List Ver) (f : Int) : List Ver := pruneTo l f l.length
theorem pruneTo_len (l : List Ver) (f : Int) : ∀ k, (pruneTo l f k).length ≤ k
  | 0 => by rw [pruneTo_zero]; simp
  | k + 1 => by
    have := pruneTo_len l f k
    rw [pruneTo]
    split
    · rw [List.length_append]; simp; omega
    · omega
theorem prune_len (l : List Ver) (f : Int) : (prune l f).length ≤ l.length := pruneTo_len l f _
theorem pruneTo_sub (l : List Ver) (f : Int) : ∀ k, k ≤ l.length → (pruneTo l f k).Sublist (l.take k)
  | 0, _ => by rw [pruneTo_zero]; simp
  | k + 1, hk => by
    have ih := pruneTo_sub l f k (by omega)
    rw [pruneTo_next (show k < l.length by omega), List.take_succ_eq_append_getElem (by omega)]
    split
    · exact ih.append (List.Sublist.refl _)
    · exact ih.trans (List.sublist_append_left _ _)
theorem prune_sub (l : List Ver) (f : Int) : (prune l f).Sublist l := by
  have := pruneTo_sub l f l.length (Nat.le_refl _)
  rwa [List.take_of_length_le (Nat.le_refl _)] at this
/-- Of what rises: the last one up to the floor, and all behind it. -/
theorem prune_split {A B : List Ver} {f : Int} (hA : ∀ v ∈ A, v.st ≤ f) (hB : ∀ v ∈ B, f < v.st) : prune (A ++ B) f = (A.getLast?.toList) ++ B := by
  have hget : ∀ i (h : i < A.length), (A ++ B)[i]'(by rw [List.length_append]; omega) = A[i] := fun i h => List.getElem_append_left h
  have hgetB : ∀ i (h : i < B.length), (A ++ B)[A.length + i]'(by rw [List.length_append]; omega) = B[i] := fun i h => by
    rw [List.getElem_append_right (by omega)]
    congr 1
    omega
  have hlast : lastI (A ++ B) (A ++ B).length f = (A.length : Int) - 1 := by
    rcases lastI_cases (A ++ B) f (A ++ B).length (Nat.le_refl _) with ⟨h1, h2⟩ | ⟨i, hi, _, h2, h3, h4⟩
    · rw [h1]
      have : A.length = 0 := by
        apply Classical.byContradiction
        intro hn
        have h0 : 0 < A.length := by omega
        have := h2 0 (by rw [List.length_append]; omega) (by rw [List.length_append]; omega)
        rw [hget 0 h0] at this
        exact this (hA _ (List.getElem_mem h0))
      rw [this]; rfl
    · rw [h2]
      have hiA : i < A.length := by
        apply Classical.byContradiction
        intro hn
        have e : i = A.length + (i - A.length) := by omega
        have hb : i - A.length < B.length := by rw [List.length_append] at hi; omega
        have e2 : (A ++ B)[i] = B[i - A.length] := by
          have := hgetB (i - A.length) hb
          simp only [← e] at this
          exact this
        rw [e2] at h3
        have := hB _ (List.getElem_mem hb)
        omega
      have : i + 1 = A.length := by
        apply Classical.byContradiction
        intro hn
        have h5 : i + 1 < A.length := by omega
        have := h4 (i + 1) (by rw [List.length_append]; omega) (by omega) (by rw [List.length_append]; omega)
        rw [hget (i + 1) h5] at this
        exact this (hA _ (List.getElem_mem h5))
      omega
  have stepA : ∀ k, k < A.length → pruneTo (A ++ B) f k = [] := by
    intro k
    induction k with
    | zero => intro _; exact pruneTo_zero _ _
    | succ k ih =>
      intro hk
      rw [pruneTo_next (show k < (A ++ B).length by rw [List.length_append]; omega), hlast, if_neg, ih (by omega)]
      rw [hget k (by omega)]
      have := hA _ (List.getElem_mem (show k < A.length by omega))
      omega
  have atA : pruneTo (A ++ B) f A.length = A.getLast?.toList := by
    cases hl : A.length with
    | zero =>
      have : A = [] := List.length_eq_zero_iff.1 hl
      subst this
      rw [pruneTo_zero]; rfl
    | succ n =>
      rw [pruneTo_next (show n < (A ++ B).length by rw [List.length_append]; omega), hlast, if_pos (Or.inr (by omega)), stepA n (by omega), hget n (by omega)]
      rw [List.getLast?_eq_getElem?, List.getElem?_eq_getElem (show A.length - 1 < A.length by omega)]
      have e : A.length - 1 = n := by omega
      simp [e]
  have stepB : ∀ k, k ≤ B.length → pruneTo (A ++ B) f (A.length + k) = A.getLast?.toList ++ B.take k := by
    intro k
    induction k with
    | zero => intro _; rw [Nat.add_zero, atA]; simp
    | succ k ih =>
      intro hk
      rw [← Nat.add_assoc, pruneTo_next (show A.length + k < (A ++ B).length by rw [List.length_append]; omega), ih (by omega), hgetB k (by omega), if_pos (Or.inl (hB _ (List.getElem_mem (by omega)))), List.append_assoc, List.take_succ_eq_append_getElem (by omega)]
  have := stepB B.length (Nat.le_refl _)
  unfold prune
  rw [List.length_append, this, List.take_of_length_le (Nat.le_refl _)]
theorem rise_split {l : List Ver} (h : l.Pairwise fun a b => a.st < b.st) (f : Int) : ∃ A B, l = A ++ B ∧ (∀ v ∈ A, v.st ≤ f) ∧ ∀ v ∈ B, f < v.st := by
  induction l with
  | nil => exact ⟨[], [], rfl, fun v hv => by simp at hv, fun v hv => by simp at hv⟩
  | cons a t ih =>
    obtain ⟨h1, h2⟩ := List.pairwise_cons.1 h
    by_cases ha : a.st ≤ f
    · obtain ⟨A, B, e, hA, hB⟩ := ih h2
      refine ⟨a :: A, B, by rw [e]; rfl, fun v hv => ?_, hB⟩
      rcases List.mem_cons.1 hv with rfl | hv
      · exact ha
      · exact hA v hv
    · refine ⟨[], a :: t, rfl, fun v hv => by simp at hv, fun v hv => ?_⟩
      rcases List.mem_cons.1 hv with rfl | hv
      · omega
      · have := h1 v hv; omega
/-- Pruned, versions in order tell from the floor on what they told. -/
theorem prune_facts {l : List Ver} (h : vright l = true) (f : Int) :
    ((prune l f).filter fun v => decide (v.st ≤ f)).length ≤ 1 ∧ vright (prune l f) = true ∧ (∀ s, f ≤ s → atS (prune l f) s = atS l s) ∧ prune (prune l f) f = prune l f := by
  refine ⟨?_, vright_sub h (prune_sub l f), ?_, ?_⟩
  all_goals
    obtain ⟨A, B, rfl, hA, hB⟩ := rise_split (vright_true.1 h).2 f
    have hp := prune_split hA hB
  · rw [hp, List.filter_append]
    have e : B.filter (fun v => decide (v.st ≤ f)) = [] := by
      rw [List.filter_eq_nil_iff]; intro v hv; have := hB v hv; simp; omega
    rw [e, List.append_nil]
    refine Nat.le_trans (List.length_filter_le _ _) ?_
    cases A.getLast? <;> simp
  · intro s hs
    rw [hp]
    refine atS_tail ?_ B
    rcases List.eq_nil_or_concat A with rfl | ⟨A', v, rfl⟩
    · rfl
    · rw [List.concat_eq_append, List.getLast?_append]
      simp only [List.getLast?_singleton, Option.some_or, Option.toList_some]
      have e1 := atS_snoc [] v s
      rw [List.nil_append] at e1
      have := hA v (by simp)
      rw [e1, atS_snoc, if_pos (by omega), if_pos (by omega)]
  · rw [hp]
    have hA2 : ∀ v ∈ A.getLast?.toList, v.st ≤ f := by
      intro v hv
      rw [Option.mem_toList] at hv
      exact hA v (List.mem_of_getLast? hv)
    rw [prune_split hA2 hB]
    congr 1
    cases A.getLast? <;> rfl

/-! ### put, and folded one by one -/
theorem put_ahead {l : List Ver} {v : Ver} {s : Int} (h : s < v.st) : atS (l ++ [v]) s = atS l s := by
  rw [atS_snoc, if_neg (by omega)]
theorem put_from {l : List Ver} {v : Ver} {s : Int} (h : v.st ≤ s) : atS (l ++ [v]) s = v.c := by
  rw [atS_snoc, if_pos h]
/-- The versions of samples that are folded at 1, 2, .. -/
def folded (l : List Int) : Nat → List Ver
  | 0 => []
  | k + 1 => folded l k ++ [⟨(k : Int) + 1, ofL (l.take (k + 1))⟩]
theorem folded_zero (l : List Int) : folded l 0 = [] := by rw [folded]
theorem folded_succ (l : List Int) (k : Nat) : folded l (k + 1) = folded l k ++ [⟨(k : Int) + 1, ofL (l.take (k + 1))⟩] := by rw [folded]
theorem folded_len (l : List Int) : ∀ k, (folded l k).length = k
  | 0 => by rw [folded_zero]; rfl
  | k + 1 => by rw [folded_succ, List.length_append, folded_len l k]; rfl
theorem folded_st (l : List Int) : ∀ k, ∀ v ∈ folded l k, 1 ≤ v.st ∧ v.st ≤ (k : Int)
  | 0, v, hv => by rw [folded_zero] at hv; simp at hv
  | k + 1, v, hv => by
    rw [folded_succ, List.mem_append] at hv
    rcases hv with hv | hv
    · have := folded_st l k v hv; omega
    · simp at hv; subst hv; simp only; omega
theorem folded_right (l : List Int) : ∀ k, k ≤ 1000000 → vright (folded l k) = true
  | 0, _ => by rw [folded_zero]; rfl
  | k + 1, hk => by
    have ih := vright_true.1 (folded_right l k (by omega))
    rw [folded_succ, vright_true]
    refine ⟨fun v hv => ?_, ?_⟩
    · rcases List.mem_append.1 hv with hv | hv
      · exact ih.1 v hv
      · simp at hv; subst hv
        unfold inR
        simp only [Bool.and_eq_true, decide_eq_true_eq]
        omega
    · rw [List.pairwise_append]
      refine ⟨ih.2, List.pairwise_singleton _ _, fun a ha b hb => ?_⟩
      simp at hb; subst hb
      have := folded_st l k a ha
      show a.st < (k : Int) + 1
      omega
theorem folded_last (l : List Int) : ∀ k, k ≤ l.length → lastC (folded l k) = ofL (l.take k) ∧ lastS (folded l k) = (k : Int)
  | 0, _ => by rw [folded_zero]; exact ⟨rfl, rfl⟩
  | k + 1, _ => by rw [folded_succ, lastC_snoc, lastS_snoc]; exact ⟨rfl, by simp⟩
theorem folded_fold {l : List Int} {k : Nat} (hk : k < l.length) (hl : l.length ≤ 1000) : foldV (folded l k) ((k : Int) + 1) l[k] = (folded l (k + 1), 0) := by
  unfold foldV
  rw [(folded_last l k (by omega)).1]
  have e : (⟨(k : Int) + 1, fold (ofL (l.take k)) l[k]⟩ : Ver) = ⟨(k : Int) + 1, ofL (l.take (k + 1))⟩ := by
    rw [List.take_succ_eq_append_getElem hk, ofL_snoc]
  rw [e, putV_ok (by rw [← folded_succ]; exact folded_right l (k + 1) (by omega)), ← folded_succ]
theorem folded_at (l : List Int) : ∀ (k : Nat) (i : Nat), i ≤ k → atS (folded l k) (i : Int) = ofL (l.take i)
  | 0, i, hi => by
    have : i = 0 := by omega
    subst this; rw [folded_zero]; rfl
  | k + 1, i, hi => by
    rw [folded_succ, atS_snoc]
    by_cases h : i = k + 1
    · subst h
      rw [if_pos (by simp)]
    · rw [if_neg (by simp only; omega), folded_at l k i (by omega)]

end Go.Proofs.Ythiofbohllmfbaa.Ch
