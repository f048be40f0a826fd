/- Plain mathematics of cells: what a sample makes, what two merged make, and samples in two cells: no program, no conditions. -/
import Derived.Test.YthiofbohllmfbaaMS
namespace Go.Proofs.Ythiofbohllmfbaa.Cl

/-- A cell: its count, its sum and whether that ran over, its least and its greatest sample. -/
structure Cell where
  cnt : Int
  sn : Int
  so : Bool
  mn : Int
  mx : Int

def ok64 (x : Int) : Prop := -9223372036854775808 ≤ x ∧ x ≤ 9223372036854775807
def okC (c : Cell) : Prop := ok64 c.cnt ∧ ok64 c.sn ∧ ok64 c.mn ∧ ok64 c.mx

def zero : Cell := ⟨0, 0, false, 0, 0⟩
def one (v : Int) : Cell := ⟨1, v, false, v, v⟩
/-- Two counts together. -/
def cnt2 (a b : Int) : Int := if 9223372036854775807 - b < a then 9223372036854775807 else a + b
/-- b merged behind a, where neither is empty. -/
def both (a b : Cell) : Cell := ⟨cnt2 a.cnt b.cnt, (Sat.add a.sn a.so b.sn b.so).1, (Sat.add a.sn a.so b.sn b.so).2, min a.mn b.mn, max a.mx b.mx⟩
/-- b merged behind a. -/
def two (a b : Cell) : Cell := if b.cnt < 1 then a else if a.cnt < 1 then b else both a b
def fold (c : Cell) (v : Int) : Cell := two c (one v)
def ofL (l : List Int) : Cell := l.foldl fold zero
def mergeL (l : List Cell) : Cell := l.foldl two zero
/-- What is asked. -/
def val (c : Cell) (g : Int) : Int × Bool := if g = 1 then (c.cnt, false) else if g = 2 then (c.sn, c.so) else if g = 3 then (c.mn, false) else if g = 4 then (c.mx, false) else (0, false)

theorem two_b {a b : Cell} (h : b.cnt < 1) : two a b = a := by unfold two; rw [if_pos h]
theorem two_a {a b : Cell} (h : ¬ b.cnt < 1) (h' : a.cnt < 1) : two a b = b := by unfold two; rw [if_neg h, if_pos h']
theorem two_ab {a b : Cell} (h : ¬ b.cnt < 1) (h' : ¬ a.cnt < 1) : two a b = both a b := by unfold two; rw [if_neg h, if_neg h']
theorem one_full (v : Int) : ¬ (one v).cnt < 1 := by unfold one; simp
theorem fold_a {c : Cell} (v : Int) (h : c.cnt < 1) : fold c v = one v := two_a (one_full v) h
theorem fold_ab {c : Cell} (v : Int) (h : ¬ c.cnt < 1) : fold c v = both c (one v) := two_ab (one_full v) h

theorem val1 (c : Cell) : val c 1 = (c.cnt, false) := by unfold val; rw [if_pos rfl]
theorem val2 (c : Cell) : val c 2 = (c.sn, c.so) := by unfold val; rw [if_neg (by decide), if_pos rfl]
theorem val3 (c : Cell) : val c 3 = (c.mn, false) := by unfold val; rw [if_neg (by decide), if_neg (by decide), if_pos rfl]
theorem val4 (c : Cell) : val c 4 = (c.mx, false) := by unfold val; rw [if_neg (by decide), if_neg (by decide), if_neg (by decide), if_pos rfl]
theorem val5 (c : Cell) (g : Int) (h1 : ¬ g = 1) (h2 : ¬ g = 2) (h3 : ¬ g = 3) (h4 : ¬ g = 4) : val c g = (0, false) := by unfold val; rw [if_neg h1, if_neg h2, if_neg h3, if_neg h4]

theorem ok_zero : okC zero := by unfold okC ok64 zero; simp
theorem ok_one {v : Int} (h : ok64 v) : okC (one v) := ⟨by unfold ok64 one; simp, h, h, h⟩
theorem ok_lo {a b : Int} (ha : ok64 a) (hb : ok64 b) : ok64 (min a b) := by unfold ok64 at *; omega
theorem ok_hi {a b : Int} (ha : ok64 a) (hb : ok64 b) : ok64 (max a b) := by unfold ok64 at *; omega
theorem ok_cnt2 {a b : Int} (ha : ok64 a) (hb : ok64 b) (ha1 : ¬ a < 1) (hb1 : ¬ b < 1) : ok64 (cnt2 a b) := by
  unfold cnt2 ok64 at *
  split <;> omega
theorem ok_both {a b : Cell} (ha : okC a) (hb : okC b) (ha1 : ¬ a.cnt < 1) (hb1 : ¬ b.cnt < 1) : okC (both a b) :=
  ⟨ok_cnt2 ha.1 hb.1 ha1 hb1, Sat.add_bounds _ _ _ _ ha.2.1.1 ha.2.1.2 hb.2.1.1 hb.2.1.2, ok_lo ha.2.2.1 hb.2.2.1, ok_hi ha.2.2.2 hb.2.2.2⟩
theorem ok_two {a b : Cell} (ha : okC a) (hb : okC b) : okC (two a b) := by
  by_cases h : b.cnt < 1
  · rw [two_b h]; exact ha
  · by_cases h' : a.cnt < 1
    · rw [two_a h h']; exact hb
    · rw [two_ab h h']; exact ok_both ha hb h' h
theorem ok_fold {c : Cell} {v : Int} (hc : okC c) (hv : ok64 v) : okC (fold c v) := ok_two hc (ok_one hv)

theorem ofL_snoc (l : List Int) (v : Int) : ofL (l ++ [v]) = fold (ofL l) v := by simp [ofL, List.foldl_append]
theorem mergeL_snoc (l : List Cell) (c : Cell) : mergeL (l ++ [c]) = two (mergeL l) c := by simp [mergeL, List.foldl_append]
theorem ok_ofL (l : List Int) (h : ∀ v ∈ l, ok64 v) : okC (ofL l) := by
  have H : ∀ (l : List Int) (s : Cell), okC s → (∀ x ∈ l, ok64 x) → okC (l.foldl fold s) := by
    intro l
    induction l with
    | nil => intro s hs _; exact hs
    | cons a r ih => intro s hs h; exact ih _ (ok_fold hs (h a (by simp))) (fun x hx => h x (by simp [hx]))
  exact H l zero ok_zero h
theorem ok_mergeL (l : List Cell) (h : ∀ c ∈ l, okC c) : okC (mergeL l) := by
  have H : ∀ (l : List Cell) (s : Cell), okC s → (∀ x ∈ l, okC x) → okC (l.foldl two s) := by
    intro l
    induction l with
    | nil => intro s hs _; exact hs
    | cons a r ih => intro s hs h; exact ih _ (ok_two hs (h a (by simp))) (fun x hx => h x (by simp [hx]))
  exact H l zero ok_zero h

/-- What a snoc list is: by its last place. -/
theorem snoc_ind {α : Type} {P : List α → Prop} (h0 : P []) (h1 : ∀ l x, P l → P (l ++ [x])) : ∀ l, P l := by
  have H : ∀ n (l : List α), l.length = n → P l := by
    intro n
    induction n with
    | zero => intro l hl; rw [List.length_eq_zero_iff.1 hl]; exact h0
    | succ n ih =>
      intro l hl
      have hne : l ≠ [] := fun h => by rw [h] at hl; cases hl
      rw [← List.dropLast_concat_getLast hne]
      exact h1 _ _ (ih _ (by rw [List.length_dropLast, hl]; rfl))
  exact fun l => H _ l rfl

/-- The count, of no more samples than 64 bits hold. -/
theorem ofL_cnt : ∀ l : List Int, (l.length : Int) ≤ 1000000 → (ofL l).cnt = l.length := by
  refine snoc_ind ?_ ?_
  · intro _; rfl
  · intro l v ih h
    have hl : ((l ++ [v]).length : Int) = (l.length : Int) + 1 := by simp
    rw [hl] at h ⊢
    have e := ih (by omega)
    rw [ofL_snoc]
    by_cases hc : (ofL l).cnt < 1
    · rw [fold_a v hc]
      show (1 : Int) = _
      omega
    · rw [fold_ab v hc]
      show cnt2 (ofL l).cnt 1 = _
      unfold cnt2
      rw [if_neg (by omega)]
      omega

theorem zero_two (l : List Int) : two zero (ofL l) = ofL l := by
  by_cases h : (ofL l).cnt < 1
  · have H : ∀ l : List Int, (ofL l).cnt < 1 → ofL l = zero := by
      refine snoc_ind ?_ ?_
      · intro _; rfl
      · intro l v _ h
        rw [ofL_snoc] at h
        exfalso
        by_cases hc : (ofL l).cnt < 1
        · rw [fold_a v hc] at h; exact one_full v h
        · rw [fold_ab v hc] at h
          have h2 : cnt2 (ofL l).cnt 1 < 1 := h
          unfold cnt2 at h2
          split at h2 <;> omega
    rw [two_b h, H l h]
  · exact two_a h (by unfold zero; simp)

theorem lo_assoc (a b c : Int) : min a (min b c) = min (min a b) c := by omega
theorem hi_assoc (a b c : Int) : max a (max b c) = max (max a b) c := by omega
theorem cnt_assoc (a b c : Int) (ha : ¬ a < 1) (hc : ¬ c < 1) : cnt2 a (cnt2 b c) = cnt2 (cnt2 a b) c := by
  unfold cnt2
  (repeat' split) <;> omega
theorem cnt_pos {a b : Int} (ha : ¬ a < 1) (hb : ¬ b < 1) : ¬ cnt2 a b < 1 := by unfold cnt2; split <;> omega

/-- What two cells tell beside their sums. -/
def like (a b : Cell) : Prop := a.cnt = b.cnt ∧ a.mn = b.mn ∧ a.mx = b.mx
theorem like_two {a b c : Cell} (h : like a b) : like (two a c) (two b c) := by
  obtain ⟨h1, h2, h3⟩ := h
  by_cases hc : c.cnt < 1
  · rw [two_b hc, two_b hc]; exact ⟨h1, h2, h3⟩
  · by_cases ha : a.cnt < 1
    · rw [two_a hc ha, two_a hc (h1 ▸ ha)]; exact ⟨rfl, rfl, rfl⟩
    · rw [two_ab hc ha, two_ab hc (h1 ▸ ha)]
      refine ⟨?_, ?_, ?_⟩
      · show cnt2 a.cnt c.cnt = cnt2 b.cnt c.cnt; rw [h1]
      · show min a.mn c.mn = min b.mn c.mn; rw [h2]
      · show max a.mx c.mx = max b.mx c.mx; rw [h3]
theorem like_assoc (a b c : Cell) : like (two a (two b c)) (two (two a b) c) := by
  by_cases hc : c.cnt < 1
  · rw [two_b hc, two_b hc]; exact ⟨rfl, rfl, rfl⟩
  · by_cases hb : b.cnt < 1
    · rw [two_a hc hb, two_b hb]; exact ⟨rfl, rfl, rfl⟩
    · have hbc : ¬ (both b c).cnt < 1 := cnt_pos hb hc
      by_cases ha : a.cnt < 1
      · rw [two_ab hc hb, two_a hbc ha, two_a hb ha, two_ab hc hb]; exact ⟨rfl, rfl, rfl⟩
      · have hab : ¬ (both a b).cnt < 1 := cnt_pos ha hb
        rw [two_ab hc hb, two_ab hbc ha, two_ab hb ha, two_ab hc hab]
        exact ⟨cnt_assoc _ _ _ ha hc, lo_assoc _ _ _, hi_assoc _ _ _⟩

/-- Samples in two cells, merged: their count, the least and the greatest one are those of all. -/
theorem split_like (l1 : List Int) : ∀ l2 : List Int, like (two (ofL l1) (ofL l2)) (ofL (l1 ++ l2)) := by
  refine snoc_ind ?_ ?_
  · rw [List.append_nil, show ofL [] = zero from rfl, two_b (by unfold zero; simp)]
    exact ⟨rfl, rfl, rfl⟩
  · intro l v ih
    rw [← List.append_assoc, ofL_snoc, ofL_snoc]
    have h1 := like_assoc (ofL l1) (ofL l) (one v)
    have h2 := like_two (c := one v) ih
    exact ⟨h1.1.trans h2.1, h1.2.1.trans h2.2.1, h1.2.2.trans h2.2.2⟩

/-- A sum that did not run over is just the sum. -/
theorem add_over {a b : Int} {ao bo : Bool} (h : (Sat.add a ao b bo).2 = false) : ao = false ∧ bo = false ∧ (Sat.add a ao b bo).1 = a + b := by
  cases ao
  · cases bo
    · refine ⟨rfl, rfl, ?_⟩
      by_cases h1 : 0 < a ∧ 9223372036854775807 - a < b
      · rw [Sat.add_above _ _ h1] at h; cases h
      · by_cases h2 : a < 0 ∧ b < -9223372036854775808 - a
        · rw [Sat.add_below _ _ h2] at h; cases h
        · rw [Sat.add_plain _ _ h1 h2]
    · rw [Sat.add_b] at h; cases h
  · rw [Sat.add_a] at h; cases h
theorem both_over {a b : Cell} (h : (both a b).so = false) : a.so = false ∧ b.so = false ∧ (both a b).sn = a.sn + b.sn := add_over h

def plain (l : List Int) : Int := l.foldl (· + ·) 0
theorem plain_snoc (l : List Int) (v : Int) : plain (l ++ [v]) = plain l + v := by simp [plain, List.foldl_append]
theorem plain_app (l1 : List Int) : ∀ l2, plain (l1 ++ l2) = plain l1 + plain l2 := by
  refine snoc_ind ?_ ?_
  · rw [List.append_nil, show plain [] = 0 from rfl, Int.add_zero]
  · intro l v ih
    rw [← List.append_assoc, plain_snoc, ih, plain_snoc, Int.add_assoc]
/-- No sample, just if the count is below 1. -/
theorem ofL_empty : ∀ l : List Int, (ofL l).cnt < 1 → l = [] := by
  refine snoc_ind ?_ ?_
  · intro _; rfl
  · intro l v _ h
    rw [ofL_snoc] at h
    exfalso
    by_cases hc : (ofL l).cnt < 1
    · rw [fold_a v hc] at h; exact one_full v h
    · rw [fold_ab v hc] at h
      exact cnt_pos hc (by decide : ¬ (1 : Int) < 1) h
theorem ofL_sum : ∀ l : List Int, (ofL l).so = false → (ofL l).sn = plain l := by
  refine snoc_ind ?_ ?_
  · intro _; rfl
  · intro l v ih h
    rw [ofL_snoc] at h ⊢
    rw [plain_snoc]
    by_cases hc : (ofL l).cnt < 1
    · rw [fold_a v hc, ofL_empty l hc]
      show v = plain [] + v
      rw [show plain [] = 0 from rfl, Int.zero_add]
    · rw [fold_ab v hc] at h ⊢
      obtain ⟨h1, _, h3⟩ := both_over h
      rw [h3, ih h1]
      rfl
/-- Samples in two cells, merged: their sum is that of all, unless one ran over. -/
theorem split_sum (l1 l2 : List Int) (h1 : (two (ofL l1) (ofL l2)).so = false) (h2 : (ofL (l1 ++ l2)).so = false) : (two (ofL l1) (ofL l2)).sn = (ofL (l1 ++ l2)).sn := by
  rw [ofL_sum _ h2, plain_app]
  by_cases hb : (ofL l2).cnt < 1
  · rw [two_b hb] at h1 ⊢
    rw [ofL_sum _ h1, ofL_empty _ hb]
    exact (Int.add_zero _).symm
  · by_cases ha : (ofL l1).cnt < 1
    · rw [two_a hb ha] at h1 ⊢
      rw [ofL_sum _ h1, ofL_empty _ ha]
      exact (Int.zero_add _).symm
    · rw [two_ab hb ha] at h1 ⊢
      obtain ⟨k1, k2, k3⟩ := both_over h1
      rw [k3, ofL_sum _ k1, ofL_sum _ k2]

end Go.Proofs.Ythiofbohllmfbaa.Cl
