/- Plain mathematics of names, values and lists of them: what a byte parts, what is joined, what blanks part; no program, no conditions. -/
import Derived.Lib.SplitLaws
import Derived.Lib.Join
namespace Go.Proofs.YtehgpibngalhfaaGreatDoor.Word
open Go

/-- A run of bytes set ahead of the first part. -/
def onto (x : List UInt8) : List (List UInt8) → List (List UInt8)
  | [] => [x]
  | p :: r => (x ++ p) :: r
/-- The parts of a text at the byte c. -/
def parts (c : UInt8) : List UInt8 → List (List UInt8)
  | [] => [[]]
  | b :: l => if b = c then [] :: parts c l else onto [b] (parts c l)

theorem onto_nil (ps : List (List UInt8)) (h : ps ≠ []) : onto [] ps = ps := by
  cases ps with
  | nil => exact absurd rfl h
  | cons p r => rfl
theorem onto_ne (x : List UInt8) (ps : List (List UInt8)) : onto x ps ≠ [] := by
  cases ps <;> simp [onto]
theorem onto_onto (x y : List UInt8) (ps : List (List UInt8)) : onto x (onto y ps) = onto (x ++ y) ps := by
  cases ps <;> simp [onto]
theorem parts_ne (c : UInt8) (l : List UInt8) : parts c l ≠ [] := by
  cases l with
  | nil => simp [parts]
  | cons b l =>
    rw [parts]
    split
    · simp
    · exact onto_ne _ _
theorem parts_hit (c : UInt8) (l : List UInt8) : parts c (c :: l) = [] :: parts c l := by rw [parts, if_pos rfl]
theorem parts_miss (b c : UInt8) (l : List UInt8) (h : b ≠ c) : parts c (b :: l) = onto [b] (parts c l) := by rw [parts, if_neg h]

/-- One byte further: it parts. -/
theorem on_hit (c : UInt8) (x l : List UInt8) : onto x (parts c (c :: l)) = x :: onto [] (parts c l) := by
  rw [parts_hit, onto_nil _ (parts_ne c l)]
  simp [onto]
/-- One byte further: it does not. -/
theorem on_miss (b c : UInt8) (x l : List UInt8) (h : b ≠ c) : onto x (parts c (b :: l)) = onto (x ++ [b]) (parts c l) := by
  rw [parts_miss _ _ _ h, onto_onto]

theorem index_cons_ne (b c : UInt8) (l : List UInt8) (h : b ≠ c) : Lib.index (b :: l) [c] = if Lib.index l [c] == -1 then -1 else Lib.index l [c] + 1 := by
  have hp : ([c] : List UInt8).isPrefixOf (b :: l) = false := by simp [List.isPrefixOf, Ne.symm h]
  rw [Lib.index, hp]; simp

/-- The library's split at one byte. -/
theorem splitK_parts (c : UInt8) : ∀ l : List UInt8, Lib.splitK [c] 0 (Lib.count l [c]) l = parts c l
  | [] => by
    rw [Lib.count_miss (by simp [Lib.index])]; rfl
  | b :: l => by
    have ih := splitK_parts c l
    by_cases h : b = c
    · subst h
      have hix : Lib.index (b :: l) [b] = 0 := by rw [Lib.index]; simp [List.isPrefixOf]
      rw [Lib.count_cons_eq, Nat.add_comm, Lib.splitK, hix, parts_hit, ← ih]
      simp
    · rw [Lib.count_cons_ne b c l h, parts_miss _ _ _ h, ← ih]
      cases hk : Lib.count l [c] with
      | zero => rfl
      | succ k =>
        rw [Lib.splitK, Lib.splitK, index_cons_ne b c l h]
        by_cases hm : Lib.index l [c] = -1
        · rw [hm]; rfl
        · have hge := Lib.index_ge l [c]
          obtain ⟨j, hj⟩ : ∃ j : Nat, Lib.index l [c] = j := ⟨(Lib.index l [c]).toNat, by omega⟩
          rw [hj]
          have e1 : ((j : Int) == -1) = false := by simp
          have e2 : ((j : Int) + 1 == -1) = false := by simp; omega
          have e3 : ((j : Int) + 1).toNat = j + 1 := by omega
          simp only [e1, e2, e3, Bool.false_eq_true, if_false, Int.toNat_natCast, List.length_singleton, onto]
          simp

theorem join_parts (c : UInt8) : ∀ l : List UInt8, Lib.join (parts c l) [c] = l
  | [] => rfl
  | b :: l => by
    have ih := join_parts c l
    obtain ⟨p, r, hp⟩ : ∃ p r, parts c l = p :: r := by
      cases h : parts c l with
      | nil => exact absurd h (parts_ne c l)
      | cons p r => exact ⟨p, r, rfl⟩
    rw [hp, Lib.join_cons] at ih
    by_cases h : b = c
    · subst h
      rw [parts_hit, hp, Lib.join_cons, Lib.joinTail, List.map_cons, List.flatten_cons]
      rw [Lib.joinTail] at ih
      simp [← ih]
    · rw [parts_miss _ _ _ h, hp, onto, Lib.join_cons]
      simp [← ih]

theorem parts_run (c : UInt8) (x : List UInt8) (h : c ∉ x) (l : List UInt8) : parts c (x ++ l) = onto x (parts c l) := by
  induction x with
  | nil => rw [onto_nil _ (parts_ne c l)]; rfl
  | cons b x ih =>
    have hb : b ≠ c := fun e => h (by simp [e])
    rw [List.cons_append, parts_miss _ _ _ hb, ih (fun e => h (by simp [e])), onto_onto]
    rfl
theorem parts_join (c : UInt8) : ∀ xs : List (List UInt8), xs ≠ [] → (∀ x ∈ xs, c ∉ x) → parts c (Lib.join xs [c]) = xs
  | [], h, _ => absurd rfl h
  | [x], _, hx => by
    rw [Lib.join_one]
    have := parts_run c x (hx x (by simp)) []
    rw [List.append_nil] at this
    rw [this, parts]
    simp [onto]
  | x :: y :: r, _, hx => by
    have ih := parts_join c (y :: r) (by simp) (fun z hz => hx z (by simp at hz ⊢; right; exact hz))
    rw [Lib.join_cons] at ih ⊢
    rw [Lib.joinTail, List.map_cons, List.flatten_cons]
    rw [parts_run c x (hx x (by simp)), List.append_assoc, List.singleton_append, parts_hit]
    rw [Lib.joinTail] at ih
    rw [ih]
    simp [onto]

/-- What blanks part. -/
def fields (l : List UInt8) : List (List UInt8) := (parts 32 l).filter fun p => !p.isEmpty
theorem fields_join (xs : List (List UInt8)) (h0 : xs ≠ []) (h1 : ∀ x ∈ xs, (32 : UInt8) ∉ x) (h2 : ∀ x ∈ xs, x ≠ []) : fields (Lib.join xs [32]) = xs := by
  rw [fields, parts_join 32 xs h0 h1]
  rw [List.filter_eq_self]
  intro x hx
  have := h2 x hx
  cases x with
  | nil => exact absurd rfl this
  | cons _ _ => rfl

/-- The document's loop, one round. -/
theorem join_take (xs : List (List UInt8)) (sep : List UInt8) (k : Nat) (y : List UInt8) (h : xs[k]? = some y) : Lib.join (xs.take (k + 1)) sep = (if 0 < k then Lib.join (xs.take k) sep ++ sep else Lib.join (xs.take k) sep) ++ y := by
  cases xs with
  | nil => simp at h
  | cons x r =>
    cases k with
    | zero =>
      simp at h
      subst h
      simp [Lib.join_one, Lib.join_nil]
    | succ k =>
      have h' : r[k]? = some y := by simpa using h
      rw [if_pos (by omega), List.take_succ_cons, List.take_succ_cons, Lib.join_cons, Lib.join_cons, Lib.joinTail_take_succ sep r k y h']
      simp [List.append_assoc]
theorem join_len_take (xs : List (List UInt8)) (sep : List UInt8) (k : Nat) : (Lib.join (xs.take k) sep).length ≤ (Lib.join xs sep).length := by
  cases xs with
  | nil => simp
  | cons x r =>
    cases k with
    | zero => simp [Lib.join_nil]
    | succ k =>
      rw [List.take_succ_cons, Lib.join_cons, Lib.join_cons, List.length_append, List.length_append]
      have := Lib.joinTail_take_le sep r k
      omega

/-- Kinds of bytes, names, values. -/
def small (c : UInt8) : Bool := decide (97 ≤ c.toNat) && decide (c.toNat ≤ 122)
def digit (c : UInt8) : Bool := decide (48 ≤ c.toNat) && decide (c.toNat ≤ 57)
def inName (c : UInt8) : Bool := small c || digit c || decide (c.toNat = 95)
def inValue (c : UInt8) : Bool := inName c || decide (c.toNat = 45) || decide (c.toNat = 46)
def fits (l : List UInt8) : Bool := decide (1 ≤ l.length) && decide (l.length ≤ 12)
def name (l : List UInt8) : Bool := fits l && (match l with | [] => false | c :: _ => small c) && l.all inName
def value (l : List UInt8) : Bool := fits l && l.all inValue
theorem name_value (l : List UInt8) (h : name l = true) : value l = true := by
  simp only [name, value, Bool.and_eq_true] at h ⊢
  refine ⟨h.1.1, ?_⟩
  have h2 := h.2
  rw [List.all_eq_true] at h2 ⊢
  intro x hx
  simp [inValue, h2 x hx]
theorem value_ne (l : List UInt8) (h : value l = true) : l ≠ [] := by
  intro e
  subst e
  simp [value, fits] at h
theorem value_mem (l : List UInt8) (c : UInt8) (h : value l = true) (hc : value [c] = false) : c ∉ l := by
  intro hm
  simp only [value, Bool.and_eq_true] at h
  have := List.all_eq_true.1 h.2 c hm
  simp [value, fits, this] at hc
end Go.Proofs.YtehgpibngalhfaaGreatDoor.Word
