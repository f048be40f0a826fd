/- Plain mathematics of tags: their order, those in order, their text and what is parsed from it; no program, no conditions. -/
import Derived.Test.YtehgpibngalhfaaGreatDoorM
import Derived.Lib.Bytealg
import Derived.Lib.IndexMore
import GoSem.Op.String
namespace Go.Proofs.YtehgpibngalhfaaGreatDoor.Tg
open Go

/-- How two texts stand to each other. -/
abbrev less (a b : List UInt8) : Bool := Op.bytesLess a b
theorem less_irrefl : ∀ a : List UInt8, less a a = false
  | [] => rfl
  | a :: x => by
    have ih := less_irrefl x
    simp only [less, Op.bytesLess] at ih ⊢
    rw [ih]
    simp
theorem u8_lt {a b : UInt8} : a < b ↔ a.toNat < b.toNat := UInt8.lt_iff_toNat_lt
theorem less_cons (a b : UInt8) (x y : List UInt8) : less (a :: x) (b :: y) = true ↔ a.toNat < b.toNat ∨ (a = b ∧ less x y = true) := by
  simp only [less, Op.bytesLess, Bool.or_eq_true, Bool.and_eq_true, decide_eq_true_eq, beq_iff_eq, u8_lt]
theorem less_nil (a : List UInt8) : less a [] = false := by cases a <;> rfl
theorem less_trans : ∀ a b c : List UInt8, less a b = true → less b c = true → less a c = true
  | _, [], _, h, _ => by rw [less_nil] at h; cases h
  | _, _ :: _, [], _, h => by rw [less_nil] at h; cases h
  | [], _ :: _, _ :: _, _, _ => rfl
  | a :: x, b :: y, c :: z, h1, h2 => by
    rw [less_cons] at h1 h2 ⊢
    rcases h1 with h1 | ⟨rfl, h1⟩
    · rcases h2 with h2 | ⟨rfl, h2⟩
      · left; omega
      · left; exact h1
    · rcases h2 with h2 | ⟨rfl, h2⟩
      · left; exact h2
      · right; exact ⟨rfl, less_trans x y z h1 h2⟩
theorem less_or : ∀ a b : List UInt8, less a b = true ∨ a = b ∨ less b a = true
  | [], [] => Or.inr (Or.inl rfl)
  | [], _ :: _ => Or.inl rfl
  | _ :: _, [] => Or.inr (Or.inr rfl)
  | a :: x, b :: y => by
    rw [less_cons, less_cons]
    rcases Nat.lt_trichotomy a.toNat b.toNat with h | h | h
    · exact Or.inl (Or.inl h)
    · have he : a = b := UInt8.toNat_inj.1 h
      subst he
      rcases less_or x y with h1 | h1 | h1
      · exact Or.inl (Or.inr ⟨rfl, h1⟩)
      · exact Or.inr (Or.inl (by rw [h1]))
      · exact Or.inr (Or.inr (Or.inr ⟨rfl, h1⟩))
    · exact Or.inr (Or.inr (Or.inl h))
theorem less_asymm (a b : List UInt8) (h : less a b = true) : less b a = false := by
  cases h2 : less b a
  · rfl
  · have := less_trans a b a h h2
    rw [less_irrefl] at this
    cases this
theorem less_ne {a b : List UInt8} (h : less a b = true) : a ≠ b := by
  intro e
  subst e
  rw [less_irrefl] at h
  cases h
theorem compare_less : ∀ a b : List UInt8, (Lib.compareBytes a b < 0) = (less a b = true)
  | [], [] => by simp [Lib.compareBytes, less, Op.bytesLess]
  | [], _ :: _ => by simp [Lib.compareBytes, less, Op.bytesLess]
  | _ :: _, [] => by simp [Lib.compareBytes, less, Op.bytesLess]
  | a :: x, b :: y => by
    have ih := compare_less x y
    rw [Lib.compareBytes, less_cons]
    by_cases h1 : a < b
    · rw [if_pos h1]
      have := u8_lt.1 h1
      simp [this]
    · rw [if_neg h1]
      have h1' : ¬ a.toNat < b.toNat := fun h => h1 (u8_lt.2 h)
      by_cases h2 : b < a
      · rw [if_pos h2]
        have h3 := u8_lt.1 h2
        have h4 : a ≠ b := fun e => by subst e; omega
        simp [h1', h4]
      · rw [if_neg h2, ih]
        have h2' : ¬ b.toNat < a.toNat := fun h => h2 (u8_lt.2 h)
        have he : a = b := UInt8.toNat_inj.1 (by omega)
        simp [he]

/-- A tag: its name and its value. -/
abbrev Tag := ByteArray × ByteArray
def nm (t : Tag) : List UInt8 := t.1.data.toList
def vl (t : Tag) : List UInt8 := t.2.data.toList
def may (t : Tag) : Bool := Word.name (nm t) && Word.value (vl t)
def lt (a b : Tag) : Bool := less (nm a) (nm b)
def cf (a b : Tag) : Int := Lib.compareBytes (nm a) (nm b)

/-- Is each name greater than the one ahead of it? -/
def rising : List Tag → Bool
  | a :: b :: r => lt a b && rising (b :: r)
  | _ => true
theorem rising_cons (a b : Tag) (r : List Tag) : rising (a :: b :: r) = (lt a b && rising (b :: r)) := by rw [rising]
theorem rising_one (a : Tag) : rising [a] = true := by rw [rising]; simp
theorem rising_nil : rising [] = true := by rw [rising]; simp
theorem rising_snoc (x : Tag) : ∀ (l : List Tag) (h : 0 < l.length), rising (l ++ [x]) = (rising l && lt (l[l.length - 1]'(by omega)) x)
  | [a], _ => by
    show rising [a, x] = _
    rw [rising_cons, rising_one, rising_one]
    simp
  | a :: b :: r, _ => by
    have ih := rising_snoc x (b :: r) (by simp)
    rw [List.cons_append, List.cons_append, rising_cons, rising_cons]
    rw [List.cons_append] at ih
    rw [ih, Bool.and_assoc]
    congr 2
theorem rising_take (l : List Tag) (k : Nat) (h0 : 0 < k) (hk : k < l.length) : rising (l.take (k + 1)) = (rising (l.take k) && lt (l[k - 1]'(by omega)) l[k]) := by
  rw [List.take_succ_eq_append_getElem hk]
  have hl : (l.take k).length = k := by rw [List.length_take]; omega
  rw [rising_snoc l[k] (l.take k) (by omega)]
  congr 2
  have e : (l.take k).length - 1 = k - 1 := by omega
  simp only [e]
  rw [List.getElem_take]
theorem rising_of_take {l : List Tag} {k : Nat} (h : rising (l.take k) = false) : rising l = false := by
  have H : ∀ (a b : List Tag), rising (a ++ b) = true → rising a = true := by
    intro a
    induction a with
    | nil => intro b _; exact rising_nil
    | cons x a ih =>
      intro b hb
      cases a with
      | nil => exact rising_one x
      | cons y a =>
        rw [List.cons_append, List.cons_append, rising_cons, Bool.and_eq_true] at hb
        rw [rising_cons, hb.1, ih b hb.2]
        rfl
  cases hr : rising l
  · rfl
  · have := H (l.take k) (l.drop k) (by rw [List.take_append_drop]; exact hr)
    rw [this] at h
    cases h

abbrev Strict (l : List Tag) : Prop := l.Pairwise fun a b => lt a b = true
theorem rising_strict : ∀ l : List Tag, rising l = true ↔ Strict l
  | [] => by simp [rising_nil, Strict]
  | [a] => by simp [rising_one, Strict]
  | a :: b :: r => by
    have ih := rising_strict (b :: r)
    rw [rising_cons, Bool.and_eq_true, ih]
    constructor
    · rintro ⟨h1, h2⟩
      refine List.pairwise_cons.2 ⟨?_, h2⟩
      intro x hx
      rcases List.mem_cons.1 hx with rfl | hx
      · exact h1
      · exact less_trans _ _ _ h1 ((List.pairwise_cons.1 h2).1 x hx)
    · intro h
      obtain ⟨h1, h2⟩ := List.pairwise_cons.1 h
      exact ⟨h1 b (by simp), h2⟩
def Names (l : List Tag) : Prop := (l.map nm).Nodup
theorem strict_names {l : List Tag} (h : Strict l) : Names l := by
  unfold Names
  rw [List.nodup_iff_pairwise_ne, List.pairwise_map]
  exact h.imp fun hab => less_ne hab
theorem names_perm {l m : List Tag} (h : l.Perm m) : Names l ↔ Names m := (h.map nm).nodup_iff
theorem strict_eq {l m : List Tag} (h : l.Perm m) (hl : Strict l) (hm : Strict m) : l = m := by
  refine List.Perm.eq_of_pairwise (le := fun a b => lt a b = true) ?_ hl hm h
  intro a b _ _ h1 h2
  have h3 : lt b a = false := less_asymm _ _ h1
  rw [h3] at h2
  cases h2
/-- Weakly in order, names apart: in order. -/
theorem weak_strict : ∀ l : List Tag, (l.Pairwise fun a b => lt b a = false) → Names l → Strict l
  | [], _, _ => List.Pairwise.nil
  | a :: r, h1, h2 => by
    rw [List.pairwise_cons] at h1
    have h2' : (nm a ∉ r.map nm) ∧ (r.map nm).Nodup := List.nodup_cons.1 h2
    refine List.pairwise_cons.2 ⟨?_, weak_strict r h1.2 h2'.2⟩
    intro b hb
    rcases less_or (nm a) (nm b) with h | h | h
    · exact h
    · exact absurd (List.mem_map.2 ⟨b, hb, h.symm⟩) h2'.1
    · have := h1.1 b hb
      rw [show lt b a = less (nm b) (nm a) from rfl, h] at this
      cases this

/-- Where a tag belongs among those in order; and set there, if none has its name. -/
def pos (x : Tag) (out : List Tag) : Nat := (out.takeWhile fun y => lt y x).length
def clash (x : Tag) (out : List Tag) : Bool := match out[pos x out]? with | some y => decide (nm y = nm x) | none => false
def put (x : Tag) (out : List Tag) : List Tag := out.take (pos x out) ++ x :: out.drop (pos x out)
def step (o : Option (List Tag)) (x : Tag) : Option (List Tag) := match o with | none => none | some out => if clash x out then none else some (put x out)
def order (l : List Tag) : Option (List Tag) := l.foldl step (some [])
theorem order_snoc (l : List Tag) (x : Tag) : order (l ++ [x]) = step (order l) x := by simp [order, List.foldl_append]
theorem order_nil : order [] = some [] := rfl
theorem step_none (x : Tag) : step none x = none := rfl
theorem step_some (out : List Tag) (x : Tag) : step (some out) x = if clash x out then none else some (put x out) := rfl
theorem fold_none (l : List Tag) : l.foldl step none = none := by
  induction l with
  | nil => rfl
  | cons x r ih => rw [List.foldl_cons]; exact ih
theorem order_none {l : List Tag} {k : Nat} (h : order (l.take k) = none) : order l = none := by
  have : order (l.take k ++ l.drop k) = none := by
    unfold order at h ⊢
    rw [List.foldl_append, h, fold_none]
  rwa [List.take_append_drop] at this
theorem pos_le (x : Tag) (out : List Tag) : pos x out ≤ out.length := (List.takeWhile_sublist _).length_le
theorem pos_lt {x : Tag} {out : List Tag} {j : Nat} (h : j < pos x out) (hj : j < out.length) : lt out[j] x = true := by
  have h1 : j < (out.takeWhile fun y => lt y x).length := h
  have h2 := List.all_eq_true.1 (List.all_takeWhile (p := fun y => lt y x) (l := out)) _ (List.getElem_mem h1)
  have h3 : (out.takeWhile fun y => lt y x)[j]? = out[j]? := by
    conv => rhs; rw [← List.takeWhile_append_dropWhile (p := fun y => lt y x) (l := out)]
    rw [List.getElem?_append_left h1]
  rw [List.getElem?_eq_getElem h1, List.getElem?_eq_getElem hj] at h3
  rwa [Option.some.inj h3] at h2
theorem pos_stop {x : Tag} {out : List Tag} (hj : pos x out < out.length) : lt out[pos x out] x = false := by
  have := List.takeWhile_append_dropWhile (p := fun y => lt y x) (l := out)
  cases hd : out.dropWhile (fun y => lt y x) with
  | nil =>
    rw [hd, List.append_nil] at this
    have h2 : (out.takeWhile fun y => lt y x).length = out.length := by rw [this]
    unfold pos at hj
    omega
  | cons y r =>
    have h3 := List.head_dropWhile_not (fun y => lt y x) (l := out) (by rw [hd]; simp)
    simp only [hd, List.head_cons] at h3
    have e : out[pos x out] = y := by
      have e1 : out[pos x out]? = some y := by
        conv => lhs; arg 1; rw [← this]
        rw [hd, List.getElem?_append_right (by unfold pos; exact Nat.le_refl _)]
        simp [pos]
      rw [List.getElem?_eq_getElem hj] at e1
      exact Option.some.inj e1
    rw [e, h3]
/-- The walk's own way to it. -/
theorem pos_eq {x : Tag} {out : List Tag} {k : Nat} (hk : k ≤ out.length) (h1 : ∀ j (h : j < out.length), j < k → lt out[j] x = true) (h2 : ∀ h : k < out.length, lt out[k] x = false) : k = pos x out := by
  rcases Nat.lt_trichotomy k (pos x out) with h | h | h
  · have hp := pos_le x out
    have := pos_lt h (by omega)
    rw [h2 (by omega)] at this
    cases this
  · exact h
  · have := pos_stop (x := x) (out := out) (by omega)
    rw [h1 _ (by omega) h] at this
    cases this
theorem clash_at {x : Tag} {out : List Tag} {k : Nat} (hk : k = pos x out) (h : k < out.length) : clash x out = decide (nm out[k] = nm x) := by
  subst hk
  unfold clash
  rw [List.getElem?_eq_getElem h]
theorem clash_end {x : Tag} {out : List Tag} {k : Nat} (hk : k = pos x out) (h : ¬ k < out.length) : clash x out = false := by
  subst hk
  unfold clash
  rw [List.getElem?_eq_none (by omega)]
theorem put_perm (x : Tag) (out : List Tag) : (put x out).Perm (x :: out) := by
  unfold put
  have h : (out.take (pos x out) ++ x :: out.drop (pos x out)).Perm (x :: (out.take (pos x out) ++ out.drop (pos x out))) := List.perm_middle
  rwa [List.take_append_drop] at h
theorem put_len (x : Tag) (out : List Tag) : (put x out).length = out.length + 1 := by
  have := (put_perm x out).length_eq
  simpa using this
theorem put_strict {x : Tag} {out : List Tag} (h : Strict out) (hc : clash x out = false) : Strict (put x out) := by
  unfold put
  have hs : Strict (out.take (pos x out) ++ out.drop (pos x out)) := by rw [List.take_append_drop]; exact h
  rw [Strict, List.pairwise_append] at hs
  have hle := pos_le x out
  have hlt : ∀ a ∈ out.take (pos x out), lt a x = true := by
    intro a ha
    obtain ⟨j, hj, rfl⟩ := List.mem_iff_getElem.1 ha
    rw [List.length_take] at hj
    rw [List.getElem_take]
    exact pos_lt (by omega) (by omega)
  have hgt : ∀ b ∈ out.drop (pos x out), lt x b = true := by
    intro b hb
    have hp : pos x out < out.length := by
      rcases Nat.lt_or_ge (pos x out) out.length with h | h
      · exact h
      · rw [List.drop_of_length_le h] at hb; cases hb
    have h0 := pos_stop hp
    rw [clash_at rfl hp] at hc
    have hne : nm out[pos x out] ≠ nm x := of_decide_eq_false hc
    have h1 : lt x out[pos x out] = true := by
      rcases less_or (nm x) (nm out[pos x out]) with h | h | h
      · exact h
      · exact absurd h.symm hne
      · rw [show lt out[pos x out] x = less (nm out[pos x out]) (nm x) from rfl, h] at h0; cases h0
    rw [List.drop_eq_getElem_cons hp] at hb hs
    rcases List.mem_cons.1 hb with rfl | hb
    · exact h1
    · exact less_trans _ _ _ h1 ((List.pairwise_cons.1 hs.2.1).1 b hb)
  rw [Strict, List.pairwise_append]
  refine ⟨hs.1, List.pairwise_cons.2 ⟨hgt, hs.2.1⟩, ?_⟩
  intro a ha b hb
  rcases List.mem_cons.1 hb with rfl | hb
  · exact hlt a ha
  · exact hs.2.2 a ha b hb
theorem clash_mem {x : Tag} {out : List Tag} (h : clash x out = true) : nm x ∈ out.map nm := by
  unfold clash at h
  cases hg : out[pos x out]? with
  | none => rw [hg] at h; cases h
  | some y =>
    rw [hg] at h
    have he : nm y = nm x := of_decide_eq_true h
    rw [← he]
    exact List.mem_map.2 ⟨y, List.mem_of_getElem? hg, rfl⟩
/-- What 'order' is. -/
theorem order_spec (l : List Tag) : (∀ S, order l = some S → Strict S ∧ S.Perm l) ∧ (order l = none → ¬ Names l) := by
  have H : ∀ n, ∀ l : List Tag, l.length = n → (∀ S, order l = some S → Strict S ∧ S.Perm l) ∧ (order l = none → ¬ Names l) := by
    intro n
    induction n with
    | zero =>
      intro l hl
      have : l = [] := List.length_eq_zero_iff.1 hl
      subst this
      refine ⟨?_, fun h => by cases h⟩
      intro S hS
      rw [order_nil] at hS
      cases hS
      exact ⟨List.Pairwise.nil, List.Perm.refl _⟩
    | succ n ih =>
      intro l hl
      rcases List.eq_nil_or_concat l with h0 | ⟨m, x, h0⟩
      · subst h0; simp at hl
      · rw [List.concat_eq_append] at h0
        subst h0
        have hm : m.length = n := by simpa using hl
        obtain ⟨i1, i2⟩ := ih m hm
        rw [order_snoc]
        cases ho : order m with
        | none =>
          rw [step_none]
          refine ⟨fun S hS => (by cases hS), fun _ hN => ?_⟩
          apply i2 ho
          unfold Names at hN ⊢
          rw [List.map_append, List.nodup_append] at hN
          exact hN.1
        | some out =>
          obtain ⟨j1, j2⟩ := i1 out ho
          rw [step_some]
          cases hc : clash x out
          · rw [if_neg (by simp)]
            refine ⟨fun S hS => ?_, fun h => (by cases h)⟩
            cases hS
            refine ⟨put_strict j1 hc, (put_perm x out).trans ?_⟩
            exact (List.Perm.cons x j2).trans (List.perm_append_singleton x m).symm
          · rw [if_pos rfl]
            refine ⟨fun S hS => (by cases hS), fun _ hN => ?_⟩
            have h1 := clash_mem hc
            have h2 : nm x ∈ m.map nm := (j2.map nm).mem_iff.1 h1
            unfold Names at hN
            rw [List.map_append, List.nodup_append] at hN
            exact hN.2.2 (nm x) h2 (nm x) (by simp) rfl
  exact H _ l rfl
theorem order_some_iff (l : List Tag) : (∃ S, order l = some S) ↔ Names l := by
  obtain ⟨h1, h2⟩ := order_spec l
  constructor
  · rintro ⟨S, hS⟩
    obtain ⟨a, b⟩ := h1 S hS
    exact (names_perm b).1 (strict_names a)
  · intro hN
    cases ho : order l with
    | none => exact absurd hN (h2 ho)
    | some S => exact ⟨S, rfl⟩
theorem order_perm {l m : List Tag} (h : l.Perm m) : order l = order m := by
  cases hl : order l with
  | none =>
    cases hm : order m with
    | none => rfl
    | some S => exact absurd ((names_perm h).2 ((order_some_iff m).1 ⟨S, hm⟩)) ((order_spec l).2 hl)
  | some S =>
    obtain ⟨T, hT⟩ := (order_some_iff m).2 ((names_perm h).1 ((order_some_iff l).1 ⟨S, hl⟩))
    obtain ⟨a1, a2⟩ := (order_spec l).1 S hl
    obtain ⟨b1, b2⟩ := (order_spec m).1 T hT
    rw [hT, strict_eq (a2.trans (h.trans b2.symm)) a1 b1]
theorem order_strict {l : List Tag} (h : Strict l) : order l = some l := by
  obtain ⟨S, hS⟩ := (order_some_iff l).2 (strict_names h)
  obtain ⟨a1, a2⟩ := (order_spec l).1 S hS
  rw [hS, strict_eq a2 a1 h]
/-- What is sorted weakly: in order, or two have one name. -/
theorem order_sorted {l d : List Tag} (hp : d.Perm l) (hw : d.Pairwise fun a b => lt b a = false) : order l = if rising d then some d else none := by
  rw [← order_perm hp]
  cases hr : rising d
  · rw [if_neg (by simp)]
    cases ho : order d with
    | none => rfl
    | some S =>
      have := weak_strict d hw ((order_some_iff d).1 ⟨S, ho⟩)
      rw [(rising_strict d).2 this] at hr
      cases hr
  · rw [if_pos rfl]
    exact order_strict ((rising_strict d).1 hr)

/-- In order, or refused: 0 for none, else the error's number. -/
def canon (l : List Tag) : List Tag × Int :=
  if l.all may then (if l.length ≤ 4 then (match order l with | some S => (S, 0) | none => ([], 5)) else ([], 4)) else ([], 2)
def right (l : List Tag) : Bool := l.all may && decide (l.length ≤ 4) && rising l
theorem all_perm {l m : List Tag} (h : l.Perm m) (p : Tag → Bool) : l.all p = m.all p := by
  rw [Bool.eq_iff_iff, List.all_eq_true, List.all_eq_true]
  exact ⟨fun g x hx => g x (h.mem_iff.2 hx), fun g x hx => g x (h.mem_iff.1 hx)⟩
theorem canon_perm {l m : List Tag} (h : l.Perm m) : canon l = canon m := by
  unfold canon
  rw [all_perm h, h.length_eq, order_perm h]
theorem canon_right {l : List Tag} (h : right l = true) : canon l = (l, 0) := by
  simp only [right, Bool.and_eq_true, decide_eq_true_eq] at h
  unfold canon
  rw [h.1.1, if_pos rfl, if_pos h.1.2, order_strict ((rising_strict l).1 h.2)]
theorem right_canon {l : List Tag} (h : (canon l).2 = 0) : right (canon l).1 = true ∧ (canon l).1.length = l.length := by
  unfold canon at h ⊢
  cases ha : l.all may
  · rw [ha] at h; simp at h
  · rw [ha, if_pos rfl] at h
    rw [if_pos rfl]
    by_cases hl : l.length ≤ 4
    · rw [if_pos hl] at h ⊢
      cases ho : order l with
      | none => rw [ho] at h; simp at h
      | some S =>
        obtain ⟨a1, a2⟩ := (order_spec l).1 S ho
        refine ⟨?_, a2.length_eq⟩
        show right S = true
        unfold right
        rw [all_perm a2, ha, a2.length_eq, (rising_strict S).2 a1, decide_eq_true hl]
        rfl
    · rw [if_neg hl] at h; simp at h
theorem canon_err {l : List Tag} (h : (canon l).2 ≠ 0) : (canon l).1 = [] := by
  unfold canon at h ⊢
  cases ha : l.all may
  · rfl
  · rw [ha, if_pos rfl] at h
    rw [if_pos rfl]
    by_cases hl : l.length ≤ 4
    · rw [if_pos hl] at h ⊢
      cases ho : order l with
      | none => rfl
      | some S => rw [ho] at h; exact absurd rfl h
    · rw [if_neg hl]
theorem canon_le (l : List Tag) : (canon l).1.length ≤ 4 := by
  by_cases h : (canon l).2 = 0
  · have := (right_canon h).1
    simp only [right, Bool.and_eq_true, decide_eq_true_eq] at this
    exact this.1.2
  · rw [canon_err h]; exact Nat.zero_le _
theorem canon_form {l : List Tag} (h : l.all may = false) : canon l = ([], 2) := by unfold canon; rw [h]; rfl
theorem canon_many {l : List Tag} (h : l.all may = true) (h2 : 4 < l.length) : canon l = ([], 4) := by unfold canon; rw [h, if_pos rfl, if_neg (by omega)]
theorem canon_order {l : List Tag} (h : l.all may = true) (h2 : l.length ≤ 4) : canon l = match order l with | some S => (S, 0) | none => ([], 5) := by unfold canon; rw [h, if_pos rfl, if_pos h2]

/-- The first = of a text. -/
def cutL : List UInt8 → Option (List UInt8 × List UInt8)
  | [] => none
  | b :: r => if b = 61 then some ([], r) else (cutL r).map fun p => (b :: p.1, p.2)
theorem index_cons_eq (c : UInt8) (l : List UInt8) : Lib.index (c :: l) [c] = 0 := by rw [Lib.index]; simp [List.isPrefixOf]
theorem cut_eq : ∀ l : List UInt8, Lib.cut l [61] = match cutL l with | none => (l, [], false) | some p => (p.1, p.2, true)
  | [] => by simp [Lib.cut, Lib.index, cutL]
  | b :: r => by
    have ih := cut_eq r
    by_cases h : b = 61
    · subst h
      unfold Lib.cut
      rw [index_cons_eq, cutL, if_pos rfl]
      simp
    · rw [cutL, if_neg h]
      unfold Lib.cut at ih ⊢
      rw [Word.index_cons_ne b 61 r h]
      have hge := Lib.index_ge r [61]
      by_cases hm : Lib.index r [61] = -1
      · rw [hm] at ih ⊢
        rw [if_neg (by omega)] at ih
        simp only [beq_self_eq_true, if_true]
        rw [if_neg (by omega)]
        cases hc : cutL r with
        | none => rfl
        | some p => rw [hc] at ih; simp at ih
      · obtain ⟨j, hj⟩ : ∃ j : Nat, Lib.index r [61] = j := ⟨(Lib.index r [61]).toNat, by omega⟩
        rw [hj] at ih ⊢
        have e1 : ((j : Int) == -1) = false := by simp
        have e3 : ((j : Int) + 1).toNat = j + 1 := by omega
        rw [if_pos (by omega)] at ih
        simp only [e1, Bool.false_eq_true, if_false, e3]
        rw [if_pos (by omega)]
        cases hc : cutL r with
        | none => rw [hc] at ih; simp at ih
        | some p =>
          rw [hc] at ih
          simp only [Int.toNat_natCast, List.length_singleton, Prod.mk.injEq] at ih
          simp only [Option.map_some, List.take_succ_cons, List.length_singleton, Prod.mk.injEq, ih.1, true_and, and_true]
          rw [show j + 1 + 1 = (j + 1) + 1 from rfl, List.drop_succ_cons]
          exact ih.2.1
theorem cut_parts : ∀ l : List UInt8, match cutL l with | none => Word.parts 61 l = [l] | some p => Word.parts 61 l = p.1 :: Word.parts 61 p.2
  | [] => rfl
  | b :: r => by
    have ih := cut_parts r
    by_cases h : b = 61
    · subst h
      rw [cutL, if_pos rfl]
      exact Word.parts_hit 61 r
    · rw [cutL, if_neg h]
      cases hc : cutL r with
      | none =>
        rw [hc] at ih
        show Word.parts 61 (b :: r) = [b :: r]
        rw [Word.parts_miss _ _ _ h, ih]
        rfl
      | some p =>
        rw [hc] at ih
        show Word.parts 61 (b :: r) = (b :: p.1) :: Word.parts 61 p.2
        rw [Word.parts_miss _ _ _ h, ih]
        rfl
theorem cut_app : ∀ (a b : List UInt8), (61 : UInt8) ∉ a → cutL (a ++ 61 :: b) = some (a, b)
  | [], b, _ => by
    show cutL (61 :: b) = _
    rw [cutL, if_pos rfl]
  | x :: a, b, h => by
    have ih := cut_app a b (fun e => h (by simp [e]))
    have hx : x ≠ 61 := fun e => h (by simp [e])
    rw [List.cons_append, cutL, if_neg hx, ih]
    rfl
theorem cut_len : ∀ l p, cutL l = some p → p.1.length + p.2.length + 1 = l.length
  | [], p, h => by rw [cutL] at h; cases h
  | b :: r, p, h => by
    rw [cutL] at h
    by_cases hb : b = 61
    · rw [if_pos hb] at h
      cases h
      simp
    · rw [if_neg hb] at h
      cases hc : cutL r with
      | none => rw [hc] at h; cases h
      | some q =>
        rw [hc] at h
        have := cut_len r q hc
        cases h
        simp
        omega

def cutT (p : List UInt8) : Option Tag := (cutL p).map fun q => (⟨q.1.toArray⟩, ⟨q.2.toArray⟩)
/-- The tags that some parts tell, if each has an =. -/
def cuts (l : List (List UInt8)) : Option (List Tag) := if l.all fun p => (cutT p).isSome then some (l.filterMap cutT) else none
def parse (s : List UInt8) : List Tag × Int :=
  if s = [] then ([], 0) else match cuts (Word.parts 44 s) with | none => ([], 2) | some l => canon l
def pair (t : Tag) : List UInt8 := nm t ++ 61 :: vl t
def text (l : List Tag) : List UInt8 := Lib.join (l.map pair) [44]
theorem cutT_pair {t : Tag} (h : may t = true) : cutT (pair t) = some t := by
  simp only [may, Bool.and_eq_true] at h
  have hn := Word.value_mem (nm t) 61 (Word.name_value _ h.1) (by decide)
  unfold cutT pair
  rw [cut_app _ _ hn]
  simp [nm, vl]
theorem pair_mem {t : Tag} (h : may t = true) : (44 : UInt8) ∉ pair t := by
  simp only [may, Bool.and_eq_true] at h
  have h1 := Word.value_mem (nm t) 44 (Word.name_value _ h.1) (by decide)
  have h2 := Word.value_mem (vl t) 44 h.2 (by decide)
  unfold pair
  simp [h1, h2]
theorem cuts_pairs : ∀ l : List Tag, l.all may = true → cuts (l.map pair) = some l
  | l, h => by
    have h1 : ∀ t ∈ l, cutT (pair t) = some t := fun t ht => cutT_pair (List.all_eq_true.1 h t ht)
    have h2 : (l.map pair).all (fun p => (cutT p).isSome) = true := by
      rw [List.all_eq_true]
      intro p hp
      obtain ⟨t, ht, rfl⟩ := List.mem_map.1 hp
      rw [h1 t ht]
      rfl
    have h3 : (l.map pair).filterMap cutT = l := by
      rw [List.filterMap_map]
      clear h h2
      induction l with
      | nil => rfl
      | cons t r ih =>
        rw [List.filterMap_cons]
        have e : (cutT ∘ pair) t = some t := h1 t (by simp)
        rw [e]
        simp only
        rw [ih (fun t ht => h1 t (by simp [ht]))]
    unfold cuts
    rw [h2, if_pos rfl, h3]
/-- There and back. -/
theorem parse_text {l : List Tag} (h : right l = true) : parse (text l) = (l, 0) := by
  have hr := h
  simp only [right, Bool.and_eq_true, decide_eq_true_eq] at h
  cases l with
  | nil => rfl
  | cons t r =>
    have hm := h.1.1
    have hne : text (t :: r) ≠ [] := by
      intro e
      unfold text at e
      rw [List.map_cons, Lib.join_cons] at e
      have := List.append_eq_nil_iff.1 e
      have h1 := this.1
      unfold pair at h1
      simp at h1
    have hp : Word.parts 44 (text (t :: r)) = (t :: r).map pair := by
      unfold text
      refine Word.parts_join 44 _ (by simp) ?_
      intro x hx
      obtain ⟨u, hu, rfl⟩ := List.mem_map.1 hx
      exact pair_mem (List.all_eq_true.1 hm u hu)
    unfold parse
    rw [if_neg hne, hp, cuts_pairs _ hm]
    exact canon_right hr
theorem parse_ok {s : List UInt8} (h : (parse s).2 = 0) : right (parse s).1 = true := by
  unfold parse at h ⊢
  by_cases h0 : s = []
  · rw [if_pos h0]; rfl
  · rw [if_neg h0] at h ⊢
    cases hc : cuts (Word.parts 44 s) with
    | none => rw [hc] at h; simp at h
    | some l => rw [hc] at h; exact (right_canon h).1
theorem parse_err {s : List UInt8} (h : (parse s).2 ≠ 0) : (parse s).1 = [] := by
  unfold parse at h ⊢
  by_cases h0 : s = []
  · rw [if_pos h0]
  · rw [if_neg h0] at h ⊢
    cases hc : cuts (Word.parts 44 s) with
    | none => rfl
    | some l => rw [hc] at h; exact canon_err h
theorem parse_le (s : List UInt8) : (parse s).1.length ≤ 4 := by
  by_cases h : (parse s).2 = 0
  · have := parse_ok h
    simp only [right, Bool.and_eq_true, decide_eq_true_eq] at this
    exact this.1.2
  · rw [parse_err h]; exact Nat.zero_le _

/-- Is it the same text? -/
def eqB (x y : ByteArray) : Bool := x.data.toList == y.data.toList
theorem eqB_true (x y : ByteArray) : eqB x y = true ↔ x = y := by
  unfold eqB
  rw [beq_iff_eq]
  constructor
  · intro h
    apply ByteArray.ext
    have := congrArg List.toArray h
    simpa using this
  · intro h; rw [h]
/-- A name's value; those of some names. -/
def find (l : List Tag) (n : ByteArray) : ByteArray × Bool := match l.find? fun t => eqB t.1 n with | some t => (t.2, true) | none => (⟨#[]⟩, false)
def only (l : List Tag) (ns : List ByteArray) : List Tag := l.filter fun t => ns.any fun n => eqB n t.1
end Go.Proofs.YtehgpibngalhfaaGreatDoor.Tg
