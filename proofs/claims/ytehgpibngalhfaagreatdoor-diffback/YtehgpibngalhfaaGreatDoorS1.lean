/- Plain mathematics: elements with their places, blocks of a stable sort, and the one list that is sorted and stable. No condition on the program. -/
import Derived.Test.YtehgpibngalhfaaGreatDoorS0
namespace Go.Proofs.YtehgpibngalhfaaGreatDoor
namespace Stb
open Go.Sort

section
variable {β : Type} [Inhabited β] {lt : β → β → Bool}

/-- Less, or neither and of a lesser place. -/
def tl (lt : β → β → Bool) (x y : β × Nat) : Bool := lt x.1 y.1 || (!lt y.1 x.1 && decide (x.2 < y.2))
/-- Less, whatever the places. -/
def fl (lt : β → β → Bool) (x y : β × Nat) : Bool := lt x.1 y.1

theorem tl_false {γ : Type} {lt : γ → γ → Bool} (x y : γ × Nat) : tl lt x y = false ↔ lt x.1 y.1 = false ∧ (lt y.1 x.1 = true ∨ y.2 ≤ x.2) := by
  unfold tl
  cases lt x.1 y.1 <;> cases lt y.1 x.1 <;> simp

theorem tl_true {γ : Type} {lt : γ → γ → Bool} (x y : γ × Nat) : tl lt x y = true ↔ lt x.1 y.1 = true ∨ (lt y.1 x.1 = false ∧ x.2 < y.2) := by
  unfold tl
  cases lt x.1 y.1 <;> cases lt y.1 x.1 <;> simp

theorem tl_swo {γ : Type} {lt : γ → γ → Bool} (hS : SWO lt) : SWO (tl lt) := by
  have nt : ∀ x y z, lt x y = false → lt y z = false → lt x z = true → False := fun x y z h1 h2 h3 => by rw [hS.ntrans x y z h1 h2] at h3; cases h3
  constructor
  · intro x; rw [tl_false]; exact ⟨hS.irrefl _, Or.inr (Nat.le_refl _)⟩
  · intro x y z h1 h2
    rw [tl_true] at h1 h2 ⊢
    rcases h1 with h1 | ⟨h1, h1'⟩ <;> rcases h2 with h2 | ⟨h2, h2'⟩
    · exact Or.inl (hS.trans _ _ _ h1 h2)
    · left; cases hc : lt x.1 z.1
      · exact (nt _ _ _ hc h2 h1).elim
      · rfl
    · left; cases hc : lt x.1 z.1
      · exact (nt _ _ _ h1 hc h2).elim
      · rfl
    · exact Or.inr ⟨hS.ntrans _ _ _ h2 h1, by omega⟩
  · intro x y z h1 h2
    rw [tl_false] at h1 h2 ⊢
    refine ⟨hS.ntrans _ _ _ h1.1 h2.1, ?_⟩
    cases hc : lt z.1 x.1
    · right
      rcases h1.2 with h | h
      · exact (nt _ _ _ h2.1 hc h).elim
      · rcases h2.2 with h' | h'
        · exact (nt _ _ _ hc h1.1 h').elim
        · omega
    · exact Or.inl rfl

/-- Across a border of places the two orders agree. -/
theorem tl_across {γ : Type} {lt : γ → γ → Bool} (c : Nat) (l r : γ × Nat) (h1 : l.2 < c) (h2 : c ≤ r.2) : fl lt r l = tl lt r l := by
  unfold fl tl
  have : decide (r.2 < l.2) = false := decide_eq_false (by omega)
  rw [this]; simp

/-! ### insertion -/
theorem insInner_tl (a : Nat) : ∀ (j : Nat) (d : Array (β × Nat)), j < d.size → (∀ x, a ≤ x → x < j → d[x]!.2 < d[j]!.2) → insInner (fl lt) a j d = insInner (tl lt) a j d
  | 0, _, _, _ => rfl
  | j + 1, d, hj, h => by
    rw [insInner, insInner]
    by_cases hc : a ≤ j
    · have e : tl lt d[j + 1]! d[j]! = fl lt d[j + 1]! d[j]! := by
        have := h j hc (by omega)
        exact (tl_across d[j + 1]!.2 d[j]! d[j + 1]! this (Nat.le_refl _)).symm
      rw [e]
      split
      · apply insInner_tl a j
        · rw [size_swp]; omega
        · intro x hx hxj
          rw [swp_other d (j + 1) j x (by omega) (by omega), swp_right d (j + 1) j (by omega)]
          exact h x hx (by omega)
      · rfl
    · have e : decide (j + 1 > a) = false := decide_eq_false (by omega)
      rw [e]; rfl

theorem insInner_perm {γ : Type} [Inhabited γ] (l : γ → γ → Bool) (a : Nat) : ∀ (j b : Nat) (d : Array γ), j < b → b ≤ d.size → PermIn a b d (insInner l a j d)
  | 0, b, d, _, _ => perm_refl _ _ _
  | j + 1, b, d, hj, hb => by
    rw [insInner]
    split
    · rename_i hc
      have ha : a ≤ j := by
        rw [Bool.and_eq_true, decide_eq_true_eq] at hc; omega
      exact perm_trans (perm_swp d a b (j + 1) j (by omega) hj ha (by omega) hb) (insInner_perm l a j b _ (by omega) (by rw [size_swp]; exact hb))
    · exact perm_refl _ _ _

theorem insOuter_tl (a b : Nat) : ∀ (g i : Nat) (d : Array (β × Nat)), b - i ≤ g → b ≤ d.size → a ≤ i → (∀ y, i ≤ y → y < b → ∀ x, a ≤ x → x < y → d[x]!.2 < d[y]!.2) → insOuter (fl lt) a b i d = insOuter (tl lt) a b i d := by
  intro g
  induction g with
  | zero =>
    intro i d hg _ _ _
    rw [insOuter, if_neg (by omega), insOuter, if_neg (by omega)]
  | succ g ih =>
    intro i d hg hb hi h
    by_cases hc : i < b
    · rw [insOuter, if_pos hc, insOuter.eq_def (tl lt), if_pos hc, insInner_tl a i d (by omega) (fun x h1 h2 => h i (Nat.le_refl _) hc x h1 h2)]
      have hp := insInner_perm (tl lt) a i (i + 1) d (by omega) (by omega)
      refine ih (i + 1) _ (by omega) (by rw [hp.1]; exact hb) (by omega) (fun y h1 h2 x h3 h4 => ?_)
      rw [hp.2.1 y (Or.inr h1)]
      by_cases hx : i + 1 ≤ x
      · rw [hp.2.1 x (Or.inr hx)]; exact h y (by omega) h2 x h3 h4
      · exact perm_all (fun v => v.2 < d[y]!.2) (by omega) hp (fun z h5 h6 => h y (by omega) h2 z h5 (by omega)) x h3 (by omega)
    · rw [insOuter, if_neg hc, insOuter, if_neg hc]

/-- Sorted, stably, with the places of the part. -/
def good (lt : β → β → Bool) (s e : Nat) (d : Array (β × Nat)) : Prop := SortedIn (tl lt) s e d ∧ ∀ x, s ≤ x → x < e → s ≤ d[x]!.2 ∧ d[x]!.2 < e

theorem ins_good (hS : SWO lt) (d : Array (β × Nat)) (a b : Nat) (hab : a ≤ b) (hb : b ≤ d.size) (h : ∀ x, a ≤ x → x < b → d[x]!.2 = x) :
    PermIn a b d (insertionSort (fl lt) d a b) ∧ good lt a b (insertionSort (fl lt) d a b) := by
  have e : insertionSort (fl lt) d a b = insertionSort (tl lt) d a b := by
    unfold insertionSort
    exact insOuter_tl a b (b - (a + 1)) (a + 1) d (Nat.le_refl _) hb (by omega) (fun y h1 h2 x h3 h4 => by rw [h y (by omega) h2, h x h3 (by omega)]; exact h4)
  rw [e]
  obtain ⟨hp, hs⟩ := insertionSort_holds (tl_swo hS) d a b hab hb
  exact ⟨hp, hs, perm_all (fun v => a ≤ v.2 ∧ v.2 < b) hb hp (fun x h1 h2 => by rw [h x h1 h2]; exact ⟨h1, h2⟩)⟩

theorem good_two {d : Array (β × Nat)} {a m b : Nat} (h1 : good lt a m d) (h2 : good lt m b d) : Two (tl lt) (fun x => x.2 < m) (fun x => m ≤ x.2) d a m b :=
  ⟨h1.1, h2.1, fun x hx hm => (h1.2 x hx hm).2, fun x hx hm => (h2.2 x hx hm).1⟩

theorem good_done {d r : Array (β × Nat)} {a m b : Nat} (hb : b ≤ d.size) (ham : a ≤ m) (hmb : m ≤ b) (h1 : good lt a m d) (h2 : good lt m b d) (hD : Done (tl lt) d a b r) : good lt a b r :=
  ⟨hD.2, perm_all (fun v => a ≤ v.2 ∧ v.2 < b) hb hD.1 (fun x hx hxb => by
    by_cases c : x < m
    · have := h1.2 x hx c; omega
    · have := h2.2 x (by omega) hxb; omega)⟩

theorem good_same {d r : Array (β × Nat)} {s e : Nat} (h : good lt s e d) (he : ∀ x, s ≤ x → x < e → r[x]! = d[x]!) : good lt s e r :=
  ⟨fun p q h1 h2 h3 => by rw [he p h1 (by omega), he q (by omega) h3]; exact h.1 p q h1 h2 h3, fun x h1 h2 => by rw [he x h1 h2]; exact h.2 x h1 h2⟩

/-! ### blocks -/
/-- The first pass: blocks up to a are done. -/
def Ph1 (lt : β → β → Bool) (n a : Nat) (d : Array (β × Nat)) : Prop := d.size = n ∧ 20 ∣ a ∧ a ≤ n ∧ (∀ s, 20 ∣ s → s < a → good lt s (s + 20) d) ∧ ∀ x, a ≤ x → x < n → d[x]!.2 = x
/-- Every block of so many is done. -/
def Ph (lt : β → β → Bool) (n bs : Nat) (d : Array (β × Nat)) : Prop := d.size = n ∧ ∀ s, bs ∣ s → s < n → good lt s (min (s + bs) n) d
/-- A pass of merges: up to a blocks of twice as many are done. -/
def Ph2 (lt : β → β → Bool) (n bs a : Nat) (d : Array (β × Nat)) : Prop := d.size = n ∧ 2 * bs ∣ a ∧ a ≤ n ∧ (∀ s, 2 * bs ∣ s → s < a → good lt s (s + 2 * bs) d) ∧ ∀ s, bs ∣ s → a ≤ s → s < n → good lt s (min (s + bs) n) d

theorem dvd_gap {k s a : Nat} (hs : k ∣ s) (ha : k ∣ a) (h : s < a) : s + k ≤ a := by
  obtain ⟨p, rfl⟩ := hs
  obtain ⟨q, rfl⟩ := ha
  have : p < q := Nat.lt_of_mul_lt_mul_left h
  calc k * p + k = k * (p + 1) := by rw [Nat.mul_add, Nat.mul_one]
    _ ≤ k * q := Nat.mul_le_mul_left k this

theorem ph1_start (n : Nat) (d : Array (β × Nat)) (hn : d.size = n) (h : ∀ x, x < n → d[x]!.2 = x) : Ph1 lt n 0 d :=
  ⟨hn, Nat.dvd_zero _, Nat.zero_le _, fun _ _ hs => absurd hs (Nat.not_lt_zero _), fun x _ hx => h x hx⟩

theorem ph1_step (hS : SWO lt) {n a : Nat} {d : Array (β × Nat)} (h : Ph1 lt n a d) (hb : a + 20 ≤ n) : Ph1 lt n (a + 20) (insertionSort (fl lt) d a (a + 20)) ∧ PermIn 0 n d (insertionSort (fl lt) d a (a + 20)) := by
  obtain ⟨hn, hd, han, hg, hx⟩ := h
  obtain ⟨hp, hgood⟩ := ins_good hS d a (a + 20) (by omega) (by omega) (fun x h1 h2 => hx x h1 (by omega))
  refine ⟨⟨by rw [hp.1]; exact hn, Nat.dvd_add hd (Nat.dvd_refl _), hb, fun s hs hlt => ?_, fun x h1 h2 => by rw [hp.2.1 x (Or.inr h1)]; exact hx x (by omega) h2⟩, perm_mono (Nat.zero_le _) hb (by omega) hp⟩
  by_cases c : s < a
  · have := dvd_gap hs hd c
    exact good_same (hg s hs c) (fun x _ h2 => hp.2.1 x (Or.inl (by omega)))
  · have : s = a := by
      by_cases c2 : s = a
      · exact c2
      · have := dvd_gap hd hs (by omega); omega
    subst this; exact hgood

theorem ph1_end (hS : SWO lt) {n a : Nat} {d : Array (β × Nat)} (h : Ph1 lt n a d) (hb : n < a + 20) : Ph lt n 20 (insertionSort (fl lt) d a n) ∧ PermIn 0 n d (insertionSort (fl lt) d a n) := by
  obtain ⟨hn, hd, han, hg, hx⟩ := h
  obtain ⟨hp, hgood⟩ := ins_good hS d a n han (by omega) (fun x h1 h2 => hx x h1 h2)
  refine ⟨⟨by rw [hp.1]; exact hn, fun s hs hlt => ?_⟩, perm_mono (Nat.zero_le _) (Nat.le_refl _) (by omega) hp⟩
  by_cases c : s < a
  · have := dvd_gap hs hd c
    rw [Nat.min_eq_left (by omega)]
    exact good_same (hg s hs c) (fun x _ h2 => hp.2.1 x (Or.inl (by omega)))
  · have : s = a := by
      by_cases c2 : s = a
      · exact c2
      · have := dvd_gap hd hs (by omega); omega
    subst this
    rw [Nat.min_eq_right (by omega)]; exact hgood

theorem ph2_start {n bs : Nat} {d : Array (β × Nat)} (h : Ph lt n bs d) : Ph2 lt n bs 0 d :=
  ⟨h.1, Nat.dvd_zero _, Nat.zero_le _, fun _ _ hs => absurd hs (Nat.not_lt_zero _), fun s hs _ hn => h.2 s hs hn⟩

theorem dvd_half {bs a : Nat} (h : 2 * bs ∣ a) : bs ∣ a := Nat.dvd_trans (Nat.dvd_mul_left bs 2) h

/-- What the merge at a is told. -/
theorem ph2_two {n bs a b : Nat} {d : Array (β × Nat)} (h : Ph2 lt n bs a d) (hbs : 0 < bs) (hb : b = min (a + 2 * bs) n) (hm : a + bs < b) : good lt a (a + bs) d ∧ good lt (a + bs) b d := by
  obtain ⟨hn, hd, han, hg, hx⟩ := h
  have h1 := hx a (dvd_half hd) (Nat.le_refl _) (by omega)
  have h2 := hx (a + bs) (Nat.dvd_add (dvd_half hd) (Nat.dvd_refl _)) (by omega) (by omega)
  rw [Nat.min_eq_left (by omega)] at h1
  have e : min (a + bs + bs) n = b := by rw [hb]; congr 1; omega
  rw [e] at h2
  exact ⟨h1, h2⟩

theorem ph2_step {n bs a : Nat} {d r : Array (β × Nat)} (h : Ph2 lt n bs a d) (hbs : 0 < bs) (hb : a + 2 * bs ≤ n) (hD : Done (tl lt) d a (a + 2 * bs) r) : Ph2 lt n bs (a + 2 * bs) r := by
  obtain ⟨g1, g2⟩ := ph2_two h hbs (b := a + 2 * bs) (by rw [Nat.min_eq_left hb]) (by omega)
  obtain ⟨hn, hd, han, hg, hx⟩ := h
  have hp := hD.1
  refine ⟨by rw [hp.1]; exact hn, Nat.dvd_add hd (Nat.dvd_refl _), hb, fun s hs hlt => ?_, fun s hs h1 h2 => good_same (hx s hs (by omega) h2) (fun x h3 _ => hp.2.1 x (Or.inr (by omega)))⟩
  by_cases c : s < a
  · have := dvd_gap hs hd c
    exact good_same (hg s hs c) (fun x _ h2 => hp.2.1 x (Or.inl (by omega)))
  · have : s = a := by
      by_cases c2 : s = a
      · exact c2
      · have := dvd_gap hd hs (by omega); omega
    subst this; exact good_done (by omega) (by omega) (by omega) g1 g2 hD

theorem ph2_end {n bs a : Nat} {d r : Array (β × Nat)} (h : Ph2 lt n bs a d) (hbs : 0 < bs) (hb : n < a + 2 * bs) (hD : (a + bs < n ∧ Done (tl lt) d a n r) ∨ (n ≤ a + bs ∧ r = d)) : Ph lt n (2 * bs) r := by
  have hh := h
  obtain ⟨hn, hd, han, hg, hx⟩ := h
  have key : PermIn a n d r ∧ (a < n → good lt a n r) := by
    rcases hD with ⟨hm, hD⟩ | ⟨hm, rfl⟩
    · obtain ⟨g1, g2⟩ := ph2_two hh hbs (b := n) (by rw [Nat.min_eq_right (by omega)]) hm
      exact ⟨hD.1, fun _ => good_done (by omega) (by omega) (by omega) g1 g2 hD⟩
    · exact ⟨perm_refl _ _ _, fun hlt => by
        have := hx a (dvd_half hd) (Nat.le_refl _) hlt
        rwa [Nat.min_eq_right hm] at this⟩
  refine ⟨by rw [key.1.1]; exact hn, fun s hs hlt => ?_⟩
  by_cases c : s < a
  · have := dvd_gap hs hd c
    rw [Nat.min_eq_left (by omega)]
    exact good_same (hg s hs c) (fun x _ h2 => key.1.2.1 x (Or.inl (by omega)))
  · have : s = a := by
      by_cases c2 : s = a
      · exact c2
      · have := dvd_gap hd hs (by omega); omega
    subst this
    rw [Nat.min_eq_right (by omega)]; exact key.2 hlt

theorem ph_sorted {n bs : Nat} {d : Array (β × Nat)} (h : Ph lt n bs d) (hb : n ≤ bs) : SortedIn (tl lt) 0 n d := by
  by_cases c : 0 < n
  · have := (h.2 0 (Nat.dvd_zero _) c).1
    rwa [Nat.min_eq_right (by omega)] at this
  · intro i j h1 h2 h3; omega

/-! ### the one list -/
/-- One more, behind all that are not greater. -/
def ins (lt : β → β → Bool) (l : List β) (x : β) : List β := l.takeWhile (fun y => !lt x y) ++ x :: l.dropWhile (fun y => !lt x y)
/-- All, one behind the other. -/
def insL (lt : β → β → Bool) (l : List β) : List β := l.foldl (ins lt) []

theorem insL_snoc {γ : Type} {lt : γ → γ → Bool} (l : List γ) (x : γ) : insL lt (l ++ [x]) = ins lt (insL lt l) x := by simp [insL, List.foldl_append]

theorem map_takeWhile_fst {γ : Type} (p : γ → Bool) : ∀ T : List (γ × Nat), (T.takeWhile (fun y => p y.1)).map Prod.fst = (T.map Prod.fst).takeWhile p
  | [] => rfl
  | y :: T => by
    simp only [List.takeWhile_cons, List.map_cons]
    cases p y.1 <;> simp [map_takeWhile_fst p T]
theorem map_dropWhile_fst {γ : Type} (p : γ → Bool) : ∀ T : List (γ × Nat), (T.dropWhile (fun y => p y.1)).map Prod.fst = (T.map Prod.fst).dropWhile p
  | [] => rfl
  | y :: T => by
    simp only [List.dropWhile_cons, List.map_cons]
    cases p y.1 <;> simp [map_dropWhile_fst p T]

theorem mem_takeWhile_true {γ : Type} (p : γ → Bool) : ∀ (l : List γ) (y : γ), y ∈ l.takeWhile p → p y = true
  | [], y, h => by simp at h
  | x :: l, y, h => by
    rw [List.takeWhile_cons] at h
    cases hp : p x
    · rw [hp] at h; simp at h
    · rw [hp] at h
      rcases List.mem_cons.1 h with rfl | h
      · exact hp
      · exact mem_takeWhile_true p l y h

theorem dropWhile_head {γ : Type} (p : γ → Bool) : ∀ (l : List γ) (h : γ) (t : List γ), l.dropWhile p = h :: t → p h = false
  | [], h, t, e => by simp at e
  | x :: l, h, t, e => by
    rw [List.dropWhile_cons] at e
    cases hp : p x
    · rw [hp] at e; simp at e; rw [← e.1]; exact hp
    · rw [hp] at e; exact dropWhile_head p l h t (by simpa using e)

theorem tagged {γ : Type} {lt : γ → γ → Bool} (hS : SWO lt) (l : List γ) : ∃ T : List (γ × Nat), T.Perm l.zipIdx ∧ T.Pairwise (fun x y => tl lt y x = false) ∧ T.map Prod.fst = insL lt l := by
  obtain ⟨g, hg⟩ : ∃ g, g = l.length := ⟨_, rfl⟩
  induction g generalizing l with
  | zero =>
    have : l = [] := List.eq_nil_of_length_eq_zero hg.symm
    subst this
    exact ⟨[], by simp, by simp, rfl⟩
  | succ g ih =>
    have hne : l ≠ [] := fun e => by subst e; simp at hg
    obtain ⟨l0, x, rfl⟩ : ∃ l0 x, l = l0 ++ [x] := ⟨l.dropLast, l.getLast hne, (List.dropLast_concat_getLast hne).symm⟩
    obtain ⟨T, hp, hs, hm⟩ := ih l0 (by simp at hg; omega)
    have hz : (l0 ++ [x]).zipIdx = l0.zipIdx ++ [(x, l0.length)] := by simp [List.zipIdx_append]
    have hidx : ∀ y ∈ T, y.2 < l0.length := fun y hy => by
      have := hp.mem_iff.1 hy
      obtain ⟨h1, h2⟩ := List.mem_zipIdx' (x := y.1) (i := y.2) (by simpa using this)
      exact h1
    refine ⟨T.takeWhile (fun y => !lt x y.1) ++ (x, l0.length) :: T.dropWhile (fun y => !lt x y.1), ?_, ?_, ?_⟩
    · rw [hz]
      refine List.perm_middle.trans ?_
      rw [List.takeWhile_append_dropWhile]
      exact (hp.cons _).trans (List.perm_append_singleton _ _).symm
    · have hsplit : (T.takeWhile (fun y => !lt x y.1) ++ T.dropWhile (fun y => !lt x y.1)).Pairwise (fun x y => tl lt y x = false) := by rw [List.takeWhile_append_dropWhile]; exact hs
      obtain ⟨h1, h2, h3⟩ := List.pairwise_append.1 hsplit
      have hd : ∀ z ∈ T.dropWhile (fun y => !lt x y.1), lt x z.1 = true := by
        intro z hz'
        cases hD : T.dropWhile (fun y => !lt x y.1) with
        | nil => rw [hD] at hz'; simp at hz'
        | cons h t =>
          have hh := dropWhile_head _ _ _ _ hD
          have hh' : lt x h.1 = true := by simpa using hh
          rw [hD] at hz' h2
          rcases List.mem_cons.1 hz' with rfl | hz''
          · exact hh'
          · have q := (List.pairwise_cons.1 h2).1 z hz''
            rw [tl_false] at q
            cases hc : lt x z.1
            · rw [hS.ntrans _ _ _ hc q.1] at hh'; cases hh'
            · rfl
      refine List.pairwise_append.2 ⟨h1, List.pairwise_cons.2 ⟨fun z hz' => ?_, h2⟩, fun y hy z hz' => ?_⟩
      · rw [tl_false]
        exact ⟨hS.asymmA (hd z hz'), Or.inl (hd z hz')⟩
      · rcases List.mem_cons.1 hz' with rfl | hz''
        · rw [tl_false]
          have := mem_takeWhile_true _ _ _ hy
          exact ⟨by simpa using this, Or.inr (Nat.le_of_lt (hidx y ((List.takeWhile_prefix _).subset hy)))⟩
        · exact h3 y hy z hz''
    · rw [insL_snoc, ← hm, List.map_append, List.map_cons, ins, map_takeWhile_fst (fun y => !lt x y), map_dropWhile_fst (fun y => !lt x y)]

theorem sortedIn_pairwise {γ : Type} [Inhabited γ] {l : γ → γ → Bool} {r : Array γ} (h : SortedIn l 0 r.size r) : r.toList.Pairwise (fun x y => l y x = false) := by
  rw [List.pairwise_iff_getElem]
  intro i j hi hj hij
  have h1 : i < r.size := by simpa using hi
  have h2 : j < r.size := by simpa using hj
  have := h i j (Nat.zero_le _) hij h2
  rw [getElem!_pos r i h1, getElem!_pos r j h2] at this
  simpa using this

theorem permIn_perm {γ : Type} [Inhabited γ] {d r : Array γ} (h : PermIn 0 d.size d r) : r.toList.Perm d.toList := by
  have := h.2.2
  rw [← h.1] at this
  have e1 : r.extract 0 r.size = r := by simp
  have e2 : d.extract 0 r.size = d := by rw [h.1]; simp
  rwa [e1, e2] at this

/-- SORTED, STABLY, IS ONE LIST. -/
theorem stable_eq (hS : SWO lt) (l : List β) (r : Array (β × Nat)) (hp : PermIn 0 l.zipIdx.toArray.size l.zipIdx.toArray r) (hs : SortedIn (tl lt) 0 l.zipIdx.toArray.size r) : r.toList.map Prod.fst = insL lt l := by
  obtain ⟨T, h1, h2, h3⟩ := tagged hS l
  have q1 : r.toList.Perm l.zipIdx := by simpa using permIn_perm hp
  have q2 : r.toList.Pairwise (fun x y => tl lt y x = false) := sortedIn_pairwise (by rw [hp.1]; exact hs)
  have e : r.toList = T := by
    refine List.Perm.eq_of_pairwise (le := fun x y => tl lt y x = false) (fun a b ha hb hab hba => ?_) q2 h2 (q1.trans h1.symm)
    have ha' := q1.mem_iff.1 ha
    have hb' := h1.mem_iff.1 hb
    rw [tl_false] at hab hba
    have hi : a.2 = b.2 := by
      have n1 : lt a.1 b.1 = false := hba.1
      have n2 : lt b.1 a.1 = false := hab.1
      rcases hab.2 with h | h
      · rw [n1] at h; cases h
      · rcases hba.2 with h' | h'
        · rw [n2] at h'; cases h'
        · omega
    obtain ⟨_, e1⟩ := List.mem_zipIdx' (x := a.1) (i := a.2) (by simpa using ha')
    obtain ⟨_, e2⟩ := List.mem_zipIdx' (x := b.1) (i := b.2) (by simpa using hb')
    have : a.1 = b.1 := by rw [e1, e2]; simp only [hi]
    exact Prod.ext this hi
  rw [e, h3]

end

end Stb
end Go.Proofs.YtehgpibngalhfaaGreatDoor
