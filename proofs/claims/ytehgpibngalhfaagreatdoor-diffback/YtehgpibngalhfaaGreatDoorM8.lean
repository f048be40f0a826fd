/- Plain mathematics of changes: those from rows to others, what they make of rows, their text and what is parsed from it; no program, no conditions. -/
import Derived.Test.YtehgpibngalhfaaGreatDoorM6
namespace Go.Proofs.YtehgpibngalhfaaGreatDoor.Df
open Go Tg Pk Ky Qy Rw

/-- A change: a row, and whether it goes. -/
structure Chg where
  r : Row
  gone : Bool
def zchg : Chg := ⟨zrow, false⟩
instance : Inhabited Chg := ⟨zchg⟩
theorem chg_ext {a b : Chg} (h1 : a.r = b.r) (h2 : a.gone = b.gone) : a = b := by
  cases a; cases b; simp only at h1 h2; subst h1 h2; rfl
def okC (c : Chg) : Prop := okR c.r
def eqC (a b : Chg) : Bool := eqR a.r b.r && (a.gone == b.gone)
theorem eqC_true (a b : Chg) : eqC a b = true ↔ a = b := by
  unfold eqC
  rw [Bool.and_eq_true, eqR_true, beq_iff_eq]
  constructor
  · rintro ⟨h1, h2⟩; exact chg_ext h1 h2
  · rintro rfl; exact ⟨rfl, rfl⟩
/-- The same, one by one. -/
def sameC (a b : List Chg) : Bool := decide (a.length = b.length) && (List.range a.length).all fun i => eqC (a.getD i zchg) (b.getD i zchg)
theorem sameC_true (a b : List Chg) : sameC a b = true ↔ a = b := by
  unfold sameC
  simp only [Bool.and_eq_true, decide_eq_true_eq, List.all_eq_true, List.mem_range, eqC_true]
  constructor
  · rintro ⟨h1, h2⟩
    apply List.ext_getElem h1
    intro i hi hj
    have := h2 i hi
    simpa [List.getD, hi, hj] using this
  · rintro rfl; exact ⟨rfl, fun _ _ => rfl⟩

/-! ### places -/
/-- At one place. -/
def pe (a b : Row) : Bool := decide (a.win = b.win) && eqB a.grp b.grp
theorem pe_true {a b : Row} : pe a b = true ↔ a.win = b.win ∧ a.grp = b.grp := by
  unfold pe; rw [Bool.and_eq_true, decide_eq_true_eq, eqB_true]
theorem pe_refl (a : Row) : pe a a = true := pe_true.2 ⟨rfl, rfl⟩
theorem pe_symm {a b : Row} (h : pe a b = true) : pe b a = true := by
  rw [pe_true] at *; exact ⟨h.1.symm, h.2.symm⟩
theorem pe_comm (a b : Row) : pe a b = pe b a := by
  rw [Bool.eq_iff_iff]; exact ⟨pe_symm, pe_symm⟩
theorem pe_trans {a b c : Row} (h1 : pe a b = true) (h2 : pe b c = true) : pe a c = true := by
  rw [pe_true] at *; exact ⟨h1.1.trans h2.1, h1.2.trans h2.2⟩
theorem pe_left {a b c : Row} (h : pe a b = true) : pe a c = pe b c := by
  rw [Bool.eq_iff_iff]; exact ⟨pe_trans (pe_symm h), pe_trans h⟩
theorem pe_right {a b c : Row} (h : pe a b = true) : pe c a = pe c b := by
  rw [pe_comm c a, pe_comm c b]; exact pe_left h
theorem rlt_irr (a : Row) : rlt a a = false := plt_irrefl _ _
theorem rlt_tr {a b c : Row} (h1 : rlt a b = true) (h2 : rlt b c = true) : rlt a c = true := plt_trans h1 h2
theorem rlt_as {a b : Row} (h : rlt a b = true) : rlt b a = false := plt_asymm h
theorem rlt_left {a b c : Row} (h : pe a b = true) : rlt a c = rlt b c := by
  rw [pe_true] at h; unfold rlt; rw [h.1, h.2]
theorem rlt_right {a b c : Row} (h : pe a b = true) : rlt c a = rlt c b := by
  rw [pe_true] at h; unfold rlt; rw [h.1, h.2]
theorem rlt_apart {a b : Row} (h : rlt a b = true) : pe a b = false := by
  cases hc : pe a b
  · rfl
  · rw [rlt_left hc, rlt_irr] at h; cases h
theorem rlt_apart' {a b : Row} (h : rlt a b = true) : pe b a = false := by rw [pe_comm]; exact rlt_apart h
theorem rlt_tri (a b : Row) : rlt a b = true ∨ pe a b = true ∨ rlt b a = true := by
  rcases plt_total a.win b.win a.grp b.grp with h | h | h
  · exact Or.inl h
  · exact Or.inr (Or.inl (pe_true.2 h))
  · exact Or.inr (Or.inr h)
theorem rlt_neither {a b : Row} (h1 : rlt a b = false) (h2 : rlt b a = false) : pe a b = true := by
  rcases rlt_tri a b with h | h | h
  · rw [h1] at h; cases h
  · exact h
  · rw [h2] at h; cases h
theorem rlt_next {a b : Row} (h1 : rlt a b = false) (h2 : pe a b = false) : rlt b a = true := by
  rcases rlt_tri a b with h | h | h
  · rw [h1] at h; cases h
  · rw [h2] at h; cases h
  · exact h

/-- Where a place is; below 0: nowhere. -/
def findR (l : List Row) (r : Row) : Int := match l.findIdx? (fun x => pe x r) with
  | some i => (i : Int)
  | none => -1
theorem findR_at {l : List Row} {r : Row} {k : Nat} (hk : k < l.length) (h1 : ∀ j (hj : j < l.length), j < k → pe l[j] r = false) (h2 : pe l[k] r = true) : findR l r = (k : Int) := by
  unfold findR
  have : l.findIdx? (fun x => pe x r) = some k := by
    rw [List.findIdx?_eq_some_iff_getElem]
    exact ⟨hk, h2, fun j hj => by simp [h1 j (by omega) hj]⟩
  rw [this]
theorem findR_none {l : List Row} {r : Row} (h : ∀ x ∈ l, pe x r = false) : findR l r = -1 := by
  unfold findR
  have : l.findIdx? (fun x => pe x r) = none := by
    rw [List.findIdx?_eq_none_iff]; exact h
  rw [this]
theorem findR_cases (l : List Row) (r : Row) : (findR l r = -1 ∧ ∀ x ∈ l, pe x r = false) ∨ ∃ (k : Nat) (hk : k < l.length), findR l r = (k : Int) ∧ pe l[k] r = true ∧ ∀ j (hj : j < l.length), j < k → pe l[j] r = false := by
  cases h : l.findIdx? (fun x => pe x r) with
  | none =>
    rw [List.findIdx?_eq_none_iff] at h
    exact Or.inl ⟨findR_none h, h⟩
  | some k =>
    rw [List.findIdx?_eq_some_iff_getElem] at h
    obtain ⟨hk, h2, h3⟩ := h
    have h3' : ∀ j (hj : j < l.length), j < k → pe l[j] r = false := fun j hj hjk => by have := h3 j hjk; simpa using this
    exact Or.inr ⟨k, hk, findR_at hk h3' h2, h2, h3'⟩
theorem findR_neg {l : List Row} {r : Row} : findR l r < 0 ↔ ∀ x ∈ l, pe x r = false := by
  rcases findR_cases l r with ⟨h1, h2⟩ | ⟨k, hk, h1, h2, _⟩
  · exact ⟨fun _ => h2, fun _ => by rw [h1]; decide⟩
  · constructor
    · intro h; omega
    · intro h; have := h _ (List.getElem_mem hk); rw [h2] at this; cases this

/-! ### lists that rise -/
def Up (l : List Row) : Prop := l.Pairwise fun a b => rlt a b = true
def UpC (l : List Chg) : Prop := l.Pairwise fun a b => rlt a.r b.r = true
theorem up_rise {l : List Row} : rise l = true ↔ Up l := rise_pairwise l
theorem upC_map {l : List Chg} : UpC l ↔ Up (l.map fun c => c.r) := by
  unfold UpC Up; rw [List.pairwise_map]
theorem up_one {l : List Row} (h : Up l) {a b : Row} (ha : a ∈ l) (hb : b ∈ l) (hp : pe a b = true) : a = b := by
  induction l with
  | nil => simp at ha
  | cons x t ih =>
    obtain ⟨h1, h2⟩ := List.pairwise_cons.1 h
    rcases List.mem_cons.1 ha with e1 | ha2
    · rcases List.mem_cons.1 hb with e2 | hb2
      · rw [e1, e2]
      · rw [e1, rlt_apart (h1 b hb2)] at hp; cases hp
    · rcases List.mem_cons.1 hb with e2 | hb2
      · rw [e2, rlt_apart' (h1 a ha2)] at hp; cases hp
      · exact ih h2 ha2 hb2
theorem upC_one {l : List Chg} (h : UpC l) {a b : Chg} (ha : a ∈ l) (hb : b ∈ l) (hp : pe a.r b.r = true) : a = b := by
  induction l with
  | nil => simp at ha
  | cons x t ih =>
    obtain ⟨h1, h2⟩ := List.pairwise_cons.1 h
    rcases List.mem_cons.1 ha with e1 | ha2
    · rcases List.mem_cons.1 hb with e2 | hb2
      · rw [e1, e2]
      · rw [e1, rlt_apart (h1 b hb2)] at hp; cases hp
    · rcases List.mem_cons.1 hb with e2 | hb2
      · rw [e2, rlt_apart' (h1 a ha2)] at hp; cases hp
      · exact ih h2 ha2 hb2
/-- Two that rise and hold the same are the same. -/
theorem up_ext {α : Type} {lt : α → α → Prop} (irr : ∀ x, ¬ lt x x) (tr : ∀ x y z, lt x y → lt y z → lt x z) : ∀ {l m : List α}, l.Pairwise lt → m.Pairwise lt → (∀ x, x ∈ l ↔ x ∈ m) → l = m
  | [], [], _, _, _ => rfl
  | [], b :: m, _, _, h => by have := (h b).2 (by simp); simp at this
  | a :: l, [], _, _, h => by have := (h a).1 (by simp); simp at this
  | a :: l, b :: m, hl, hm, h => by
    obtain ⟨l1, l2⟩ := List.pairwise_cons.1 hl
    obtain ⟨m1, m2⟩ := List.pairwise_cons.1 hm
    have e : a = b := by
      rcases List.mem_cons.1 ((h a).1 (by simp)) with e | ha
      · exact e
      · rcases List.mem_cons.1 ((h b).2 (by simp)) with e | hb
        · exact e.symm
        · exact absurd (tr _ _ _ (m1 a ha) (l1 b hb)) (irr b)
    subst e
    have : l = m := by
      refine up_ext irr tr l2 m2 (fun x => ⟨fun hx => ?_, fun hx => ?_⟩)
      · rcases List.mem_cons.1 ((h x).1 (by simp [hx])) with rfl | hx'
        · exact absurd (l1 x hx) (irr x)
        · exact hx'
      · rcases List.mem_cons.1 ((h x).2 (by simp [hx])) with rfl | hx'
        · exact absurd (m1 x hx) (irr x)
        · exact hx'
    rw [this]
theorem rows_ext {l m : List Row} (hl : Up l) (hm : Up m) (h : ∀ x, x ∈ l ↔ x ∈ m) : l = m :=
  up_ext (lt := fun a b : Row => rlt a b = true) (fun x => by simp [rlt_irr]) (fun _ _ _ => rlt_tr) hl hm h
theorem chgs_ext {l m : List Chg} (hl : UpC l) (hm : UpC m) (h : ∀ x, x ∈ l ↔ x ∈ m) : l = m :=
  up_ext (lt := fun a b : Chg => rlt a.r b.r = true) (fun x => by simp [rlt_irr]) (fun _ _ _ => rlt_tr) hl hm h

/-! ### a change into others -/
def putC : List Chg → Chg → List Chg
  | [], x => [x]
  | y :: t, x => if rlt y.r x.r then y :: putC t x else x :: y :: t
theorem putC_nil (x : Chg) : putC [] x = [x] := by rw [putC]
theorem putC_less {y x : Chg} (t : List Chg) (h : rlt y.r x.r = true) : putC (y :: t) x = y :: putC t x := by rw [putC, if_pos h]
theorem putC_here {y x : Chg} (t : List Chg) (h : rlt y.r x.r = false) : putC (y :: t) x = x :: y :: t := by rw [putC, if_neg (by simp [h])]
/-- By the place where it comes in. -/
theorem putC_at : ∀ (l : List Chg) (x : Chg) (k : Nat), k ≤ l.length → (∀ j (hj : j < l.length), j < k → rlt l[j].r x.r = true) → (∀ (h : k < l.length), rlt l[k].r x.r = false) → putC l x = l.take k ++ x :: l.drop k
  | [], x, k, hk, _, _ => by
    have : k = 0 := by simpa using hk
    subst this; rw [putC_nil]; rfl
  | y :: t, x, 0, _, _, h => by
    have hy : rlt y.r x.r = false := h (by simp)
    rw [putC_here t hy]; rfl
  | y :: t, x, k + 1, hk, hl, h => by
    have hy : rlt y.r x.r = true := hl 0 (by simp) (by omega)
    rw [putC_less t hy, putC_at t x k (by simpa using hk) (fun j hj hjk => hl (j + 1) (by simpa using hj) (by omega)) (fun h' => h (by simpa using h'))]
    rfl
theorem putC_mem (c : Chg) : ∀ (l : List Chg) (x : Chg), c ∈ putC l x ↔ c = x ∨ c ∈ l
  | [], x => by rw [putC_nil]; simp
  | y :: t, x => by
    cases h : rlt y.r x.r
    · rw [putC_here t h]; simp
    · rw [putC_less t h, List.mem_cons, putC_mem c t x, List.mem_cons]
      constructor
      · rintro (h | h | h)
        · exact Or.inr (Or.inl h)
        · exact Or.inl h
        · exact Or.inr (Or.inr h)
      · rintro (h | h | h)
        · exact Or.inr (Or.inl h)
        · exact Or.inl h
        · exact Or.inr (Or.inr h)
theorem putC_len (l : List Chg) (x : Chg) : (putC l x).length = l.length + 1 := by
  induction l with
  | nil => rw [putC_nil]; rfl
  | cons y t ih =>
    cases h : rlt y.r x.r
    · rw [putC_here t h]; rfl
    · rw [putC_less t h, List.length_cons, ih]; rfl
theorem putC_up : ∀ (l : List Chg) (x : Chg), UpC l → (∀ y ∈ l, pe y.r x.r = false) → UpC (putC l x)
  | [], x, _, _ => by rw [putC_nil]; exact List.pairwise_singleton _ _
  | y :: t, x, h, hx => by
    obtain ⟨h1, h2⟩ := List.pairwise_cons.1 h
    cases hc : rlt y.r x.r
    · rw [putC_here t hc]
      have hxy := rlt_next hc (hx y (by simp))
      refine List.pairwise_cons.2 ⟨fun z hz => ?_, h⟩
      rcases List.mem_cons.1 hz with rfl | hz
      · exact hxy
      · exact rlt_tr hxy (h1 z hz)
    · rw [putC_less t hc]
      refine List.pairwise_cons.2 ⟨fun z hz => ?_, putC_up t x h2 (fun z hz => hx z (by simp [hz]))⟩
      rcases (putC_mem z t x).1 hz with rfl | hz
      · exact hc
      · exact h1 z hz
theorem foldC_mem (c : Chg) : ∀ (X l : List Chg), c ∈ X.foldl putC l ↔ c ∈ X ∨ c ∈ l
  | [], l => by simp
  | x :: X, l => by
    rw [List.foldl_cons, foldC_mem c X, putC_mem, List.mem_cons]
    constructor
    · rintro (h | h | h)
      · exact Or.inl (Or.inr h)
      · exact Or.inl (Or.inl h)
      · exact Or.inr h
    · rintro ((h | h) | h)
      · exact Or.inr (Or.inl h)
      · exact Or.inl h
      · exact Or.inr (Or.inr h)
theorem foldC_up : ∀ (X l : List Chg), UpC l → (X.Pairwise fun a b => pe a.r b.r = false) → (∀ x ∈ X, ∀ y ∈ l, pe y.r x.r = false) → UpC (X.foldl putC l)
  | [], l, h, _, _ => h
  | x :: X, l, h, hX, hl => by
    obtain ⟨h1, h2⟩ := List.pairwise_cons.1 hX
    rw [List.foldl_cons]
    refine foldC_up X _ (putC_up l x h (hl x (by simp))) h2 (fun z hz y hy => ?_)
    rcases (putC_mem y l x).1 hy with rfl | hy
    · exact h1 z hz
    · exact hl z (by simp [hz]) y hy
theorem foldC_len : ∀ (X l : List Chg), (X.foldl putC l).length = l.length + X.length
  | [], l => by simp
  | x :: X, l => by rw [List.foldl_cons, foldC_len X, putC_len, List.length_cons]; omega

/-! ### from rows to others -/
def goneC (r : Row) : Chg := ⟨⟨r.win, r.grp, 0, false⟩, true⟩
def comeC (r : Row) : Chg := ⟨r, false⟩
theorem gone_pe (r : Row) : pe (goneC r).r r = true := pe_true.2 ⟨rfl, rfl⟩
def eqV (a b : Row) : Bool := decide (a.n = b.n) && (a.ov == b.ov)
theorem eqV_true {a b : Row} : eqV a b = true ↔ a.n = b.n ∧ a.ov = b.ov := by
  unfold eqV; rw [Bool.and_eq_true, decide_eq_true_eq, beq_iff_eq]
theorem eqV_pe {a b : Row} (h1 : pe a b = true) (h2 : eqV a b = true) : a = b := by
  rw [pe_true] at h1; rw [eqV_true] at h2
  exact row_ext h1.1 h1.2 h2.1 h2.2
theorem eqV_refl (a : Row) : eqV a a = true := eqV_true.2 ⟨rfl, rfl⟩
def lost (b : List Row) (r : Row) : Bool := decide (findR b r < 0)
def turned (a : List Row) (r : Row) : Bool := decide (findR a r < 0) || !eqV (a.getD (findR a r).toNat zrow) r
theorem lost_true {b : List Row} {r : Row} : lost b r = true ↔ ∀ x ∈ b, pe x r = false := by
  unfold lost; rw [decide_eq_true_eq]; exact findR_neg
theorem turned_true {a : List Row} {r : Row} (ha : Up a) : turned a r = true ↔ r ∉ a := by
  unfold turned
  rcases findR_cases a r with ⟨h1, h2⟩ | ⟨k, hk, h1, h2, h3⟩
  · rw [h1]
    constructor
    · intro _ hr; have := h2 r hr; rw [pe_refl] at this; cases this
    · intro _; rfl
  · rw [h1]
    have hn : ¬ ((k : Int) < 0) := by omega
    have hg : a.getD (k : Int).toNat zrow = a[k] := by simp [List.getD, hk]
    rw [hg]
    simp only [hn, decide_false, Bool.false_or, Bool.not_eq_true']
    constructor
    · intro h hr
      have := up_one ha (List.getElem_mem hk) hr h2
      rw [this, eqV_refl] at h; cases h
    · intro h
      cases hc : eqV a[k] r
      · rfl
      · exact absurd (eqV_pe h2 hc ▸ List.getElem_mem hk) h
/-- The changes from a to b, one into the others. -/
def ofD (a b : List Row) : List Chg := ((b.filter (turned a)).map comeC).foldl putC (((a.filter (lost b)).map goneC).foldl putC [])
theorem ofD_mem {a b : List Row} (ha : Up a) (c : Chg) : c ∈ ofD a b ↔ (∃ r ∈ b, r ∉ a ∧ comeC r = c) ∨ ∃ r ∈ a, (∀ x ∈ b, pe x r = false) ∧ goneC r = c := by
  unfold ofD
  rw [foldC_mem, foldC_mem]
  simp only [List.mem_map, List.mem_filter, turned_true ha, lost_true, List.not_mem_nil, or_false, and_assoc]
theorem ofD_up {a b : List Row} (ha : Up a) (hb : Up b) : UpC (ofD a b) := by
  unfold ofD
  refine foldC_up _ _ (foldC_up _ [] List.Pairwise.nil ?_ (fun _ _ _ h => by simp at h)) ?_ ?_
  · rw [List.pairwise_map]
    refine (ha.filter _).imp (fun {x y} h => ?_)
    rw [pe_left (gone_pe x), pe_right (gone_pe y)]; exact rlt_apart h
  · rw [List.pairwise_map]
    exact (hb.filter _).imp (fun {x y} h => rlt_apart h)
  · intro x hx y hy
    rw [foldC_mem] at hy
    simp only [List.not_mem_nil, or_false] at hy
    obtain ⟨r, hr, rfl⟩ := List.mem_map.1 hx
    obtain ⟨s, hs, rfl⟩ := List.mem_map.1 hy
    have h1 := (List.mem_filter.1 hr).1
    have h2 := lost_true.1 (List.mem_filter.1 hs).2
    rw [pe_left (gone_pe s), pe_comm]; exact h2 r h1
theorem ofD_len (a b : List Row) : (ofD a b).length ≤ a.length + b.length := by
  unfold ofD
  rw [foldC_len, foldC_len, List.length_map, List.length_map]
  have h1 := List.length_filter_le (turned a) b
  have h2 := List.length_filter_le (lost b) a
  simp only [List.length_nil]; omega
/-- What has these members and rises is the changes. -/
theorem ofD_is {a b : List Row} (ha : Up a) (hb : Up b) {L : List Chg} (hL : UpC L) (h : ∀ c, c ∈ L ↔ (∃ r ∈ b, r ∉ a ∧ comeC r = c) ∨ ∃ r ∈ a, (∀ x ∈ b, pe x r = false) ∧ goneC r = c) : L = ofD a b :=
  chgs_ext hL (ofD_up ha hb) (fun c => (h c).trans (ofD_mem ha c).symm)
/-- Side by side. -/
def mergeD : List Row → List Row → List Chg
  | [], b => b.map comeC
  | x :: a, [] => (x :: a).map goneC
  | x :: a, y :: b => if rlt x y then goneC x :: mergeD a (y :: b) else if rlt y x then comeC y :: mergeD (x :: a) b else if eqV x y then mergeD a b else comeC y :: mergeD a b
termination_by a b => a.length + b.length
theorem mergeD_nil (b : List Row) : mergeD [] b = b.map comeC := by rw [mergeD]
theorem mergeD_end (a : List Row) : mergeD a [] = a.map goneC := by
  cases a
  · rw [mergeD]; rfl
  · rw [mergeD]
theorem mergeD_lt {x y : Row} (a b : List Row) (h : rlt x y = true) : mergeD (x :: a) (y :: b) = goneC x :: mergeD a (y :: b) := by rw [mergeD, if_pos h]
theorem mergeD_gt {x y : Row} (a b : List Row) (h : rlt y x = true) : mergeD (x :: a) (y :: b) = comeC y :: mergeD (x :: a) b := by
  rw [mergeD, if_neg (by simp [rlt_as h]), if_pos h]
theorem mergeD_same {x y : Row} (a b : List Row) (h1 : pe x y = true) (h2 : eqV x y = true) : mergeD (x :: a) (y :: b) = mergeD a b := by
  rw [mergeD, if_neg (by rw [rlt_left h1, rlt_irr]; simp), if_neg (by rw [rlt_right h1, rlt_irr]; simp), if_pos h2]
theorem mergeD_else {x y : Row} (a b : List Row) (h1 : pe x y = true) (h2 : eqV x y = false) : mergeD (x :: a) (y :: b) = comeC y :: mergeD a b := by
  rw [mergeD, if_neg (by rw [rlt_left h1, rlt_irr]; simp), if_neg (by rw [rlt_right h1, rlt_irr]; simp), if_neg (by simp [h2])]
/-- What a change from a to b is. -/
def Dm (a b : List Row) (c : Chg) : Prop := (∃ r ∈ b, r ∉ a ∧ comeC r = c) ∨ ∃ r ∈ a, (∀ x ∈ b, pe x r = false) ∧ goneC r = c
theorem dm_ahead {a b : List Row} {z : Row} (ha : ∀ r ∈ a, rlt z r = true) (hb : ∀ r ∈ b, rlt z r = true) {c : Chg} (h : Dm a b c) : rlt z c.r = true := by
  rcases h with ⟨r, hr, _, rfl⟩ | ⟨r, hr, _, rfl⟩
  · exact hb r hr
  · rw [rlt_right (gone_pe r)]; exact ha r hr
theorem mergeD_facts : ∀ (n : Nat) (a b : List Row), a.length + b.length ≤ n → Up a → Up b → UpC (mergeD a b) ∧ ∀ c, c ∈ mergeD a b ↔ Dm a b c
  | _, [], b, _, _, hb => by
    rw [mergeD_nil]
    refine ⟨by unfold UpC; rw [List.pairwise_map]; exact hb, fun c => ?_⟩
    unfold Dm; simp
  | _, x :: a, [], _, ha, _ => by
    rw [mergeD_end]
    refine ⟨?_, fun c => ?_⟩
    · unfold UpC; rw [List.pairwise_map]
      refine ha.imp (fun {x y} h => ?_)
      rw [rlt_left (gone_pe x), rlt_right (gone_pe y)]; exact h
    · unfold Dm; rw [List.mem_map]; simp
  | 0, x :: a, y :: b, h, _, _ => by simp at h
  | n + 1, x :: a, y :: b, h, ha, hb => by
    obtain ⟨a1, a2⟩ := List.pairwise_cons.1 ha
    obtain ⟨b1, b2⟩ := List.pairwise_cons.1 hb
    simp only [List.length_cons] at h
    rcases rlt_tri x y with hxy | hxy | hxy
    · rw [mergeD_lt a b hxy]
      obtain ⟨i1, i2⟩ := mergeD_facts n a (y :: b) (by simp only [List.length_cons]; omega) a2 hb
      have hx : ∀ r ∈ y :: b, rlt x r = true := by
        intro r hr
        rcases List.mem_cons.1 hr with rfl | hr
        · exact hxy
        · exact rlt_tr hxy (b1 r hr)
      refine ⟨List.pairwise_cons.2 ⟨fun c hc => ?_, i1⟩, fun c => ?_⟩
      · rw [rlt_left (gone_pe x)]; exact dm_ahead a1 hx ((i2 c).1 hc)
      · rw [List.mem_cons, i2 c]
        constructor
        · rintro (rfl | ⟨r, hr, hn, e⟩ | ⟨r, hr, hn, e⟩)
          · exact Or.inr ⟨x, by simp, fun z hz => rlt_apart' (hx z hz), rfl⟩
          · refine Or.inl ⟨r, hr, fun hm => ?_, e⟩
            rcases List.mem_cons.1 hm with rfl | hm
            · have := hx r hr; rw [rlt_irr] at this; cases this
            · exact hn hm
          · exact Or.inr ⟨r, by simp [hr], hn, e⟩
        · rintro (⟨r, hr, hn, e⟩ | ⟨r, hr, hn, e⟩)
          · exact Or.inr (Or.inl ⟨r, hr, fun hm => hn (by simp [hm]), e⟩)
          · rcases List.mem_cons.1 hr with rfl | hr
            · exact Or.inl e.symm
            · exact Or.inr (Or.inr ⟨r, hr, hn, e⟩)
    · cases hv : eqV x y
      · rw [mergeD_else a b hxy hv]
        obtain ⟨i1, i2⟩ := mergeD_facts n a b (by omega) a2 b2
        have hy : ∀ r ∈ a, rlt y r = true := fun r hr => by rw [← rlt_left hxy]; exact a1 r hr
        have hx : ∀ r ∈ b, rlt x r = true := fun r hr => by rw [rlt_left hxy]; exact b1 r hr
        refine ⟨List.pairwise_cons.2 ⟨fun c hc => dm_ahead hy b1 ((i2 c).1 hc), i1⟩, fun c => ?_⟩
        rw [List.mem_cons, i2 c]
        constructor
        · rintro (rfl | ⟨r, hr, hn, e⟩ | ⟨r, hr, hn, e⟩)
          · refine Or.inl ⟨y, by simp, fun hm => ?_, rfl⟩
            rcases List.mem_cons.1 hm with rfl | hm
            · rw [eqV_refl] at hv; cases hv
            · have := hy y hm; rw [rlt_irr] at this; cases this
          · refine Or.inl ⟨r, by simp [hr], fun hm => ?_, e⟩
            rcases List.mem_cons.1 hm with rfl | hm
            · have := hx r hr; rw [rlt_irr] at this; cases this
            · exact hn hm
          · refine Or.inr ⟨r, by simp [hr], fun z hz => ?_, e⟩
            rcases List.mem_cons.1 hz with rfl | hz
            · exact rlt_apart (hy r hr)
            · exact hn z hz
        · rintro (⟨r, hr, hn, e⟩ | ⟨r, hr, hn, e⟩)
          · rcases List.mem_cons.1 hr with rfl | hr
            · exact Or.inl e.symm
            · exact Or.inr (Or.inl ⟨r, hr, fun hm => hn (by simp [hm]), e⟩)
          · rcases List.mem_cons.1 hr with rfl | hr
            · have := hn y (by simp); rw [pe_symm hxy] at this; cases this
            · exact Or.inr (Or.inr ⟨r, hr, fun z hz => hn z (by simp [hz]), e⟩)
      · have exy := eqV_pe hxy hv
        subst exy
        rw [mergeD_same a b hxy hv]
        obtain ⟨i1, i2⟩ := mergeD_facts n a b (by omega) a2 b2
        refine ⟨i1, fun c => ?_⟩
        rw [i2 c]
        constructor
        · rintro (⟨r, hr, hn, e⟩ | ⟨r, hr, hn, e⟩)
          · refine Or.inl ⟨r, by simp [hr], fun hm => ?_, e⟩
            rcases List.mem_cons.1 hm with rfl | hm
            · have := b1 r hr; rw [rlt_irr] at this; cases this
            · exact hn hm
          · refine Or.inr ⟨r, by simp [hr], fun z hz => ?_, e⟩
            rcases List.mem_cons.1 hz with rfl | hz
            · exact rlt_apart (a1 r hr)
            · exact hn z hz
        · rintro (⟨r, hr, hn, e⟩ | ⟨r, hr, hn, e⟩)
          · rcases List.mem_cons.1 hr with rfl | hr
            · exact absurd (by simp) hn
            · exact Or.inl ⟨r, hr, fun hm => hn (by simp [hm]), e⟩
          · rcases List.mem_cons.1 hr with rfl | hr
            · have := hn r (by simp); rw [pe_refl] at this; cases this
            · exact Or.inr ⟨r, hr, fun z hz => hn z (by simp [hz]), e⟩
    · rw [mergeD_gt a b hxy]
      obtain ⟨i1, i2⟩ := mergeD_facts n (x :: a) b (by simp only [List.length_cons]; omega) ha b2
      have hy : ∀ r ∈ x :: a, rlt y r = true := by
        intro r hr
        rcases List.mem_cons.1 hr with rfl | hr
        · exact hxy
        · exact rlt_tr hxy (a1 r hr)
      refine ⟨List.pairwise_cons.2 ⟨fun c hc => dm_ahead hy b1 ((i2 c).1 hc), i1⟩, fun c => ?_⟩
      rw [List.mem_cons, i2 c]
      constructor
      · rintro (rfl | ⟨r, hr, hn, e⟩ | ⟨r, hr, hn, e⟩)
        · refine Or.inl ⟨y, by simp, fun hm => ?_, rfl⟩
          have := hy y hm; rw [rlt_irr] at this; cases this
        · exact Or.inl ⟨r, by simp [hr], hn, e⟩
        · refine Or.inr ⟨r, hr, fun z hz => ?_, e⟩
          rcases List.mem_cons.1 hz with rfl | hz
          · exact rlt_apart (hy r hr)
          · exact hn z hz
      · rintro (⟨r, hr, hn, e⟩ | ⟨r, hr, hn, e⟩)
        · rcases List.mem_cons.1 hr with rfl | hr
          · exact Or.inl e.symm
          · exact Or.inr (Or.inl ⟨r, hr, hn, e⟩)
        · exact Or.inr (Or.inr ⟨r, hr, fun z hz => hn z (by simp [hz]), e⟩)
theorem mergeD_of {a b : List Row} (ha : Up a) (hb : Up b) : mergeD a b = ofD a b := by
  obtain ⟨h1, h2⟩ := mergeD_facts _ a b (Nat.le_refl _) ha hb
  exact ofD_is ha hb h1 h2

/-! ### changes applied -/
def putR : List Row → Row → List Row
  | [], x => [x]
  | y :: t, x => if rlt y x then y :: putR t x else x :: y :: t
theorem putR_nil (x : Row) : putR [] x = [x] := by rw [putR]
theorem putR_less {y x : Row} (t : List Row) (h : rlt y x = true) : putR (y :: t) x = y :: putR t x := by rw [putR, if_pos h]
theorem putR_here {y x : Row} (t : List Row) (h : rlt y x = false) : putR (y :: t) x = x :: y :: t := by rw [putR, if_neg (by simp [h])]
/-- By the place where it comes in. -/
theorem putR_at : ∀ (l : List Row) (x : Row) (k : Nat), k ≤ l.length → (∀ j (hj : j < l.length), j < k → rlt l[j] x = true) → (∀ (h : k < l.length), rlt l[k] x = false) → putR l x = l.take k ++ x :: l.drop k
  | [], x, k, hk, _, _ => by
    have : k = 0 := by simpa using hk
    subst this; rw [putR_nil]; rfl
  | y :: t, x, 0, _, _, h => by
    have hy : rlt y x = false := h (by simp)
    rw [putR_here t hy]; rfl
  | y :: t, x, k + 1, hk, hl, h => by
    have hy : rlt y x = true := hl 0 (by simp) (by omega)
    rw [putR_less t hy, putR_at t x k (by simpa using hk) (fun j hj hjk => hl (j + 1) (by simpa using hj) (by omega)) (fun h' => h (by simpa using h'))]
    rfl
theorem putR_mem (c : Row) : ∀ (l : List Row) (x : Row), c ∈ putR l x ↔ c = x ∨ c ∈ l
  | [], x => by rw [putR_nil]; simp
  | y :: t, x => by
    cases h : rlt y x
    · rw [putR_here t h]; simp
    · rw [putR_less t h, List.mem_cons, putR_mem c t x, List.mem_cons]
      constructor
      · rintro (h | h | h)
        · exact Or.inr (Or.inl h)
        · exact Or.inl h
        · exact Or.inr (Or.inr h)
      · rintro (h | h | h)
        · exact Or.inr (Or.inl h)
        · exact Or.inl h
        · exact Or.inr (Or.inr h)
theorem putR_len (l : List Row) (x : Row) : (putR l x).length = l.length + 1 := by
  induction l with
  | nil => rw [putR_nil]; rfl
  | cons y t ih =>
    cases h : rlt y x
    · rw [putR_here t h]; rfl
    · rw [putR_less t h, List.length_cons, ih]; rfl
theorem putR_up : ∀ (l : List Row) (x : Row), Up l → (∀ y ∈ l, pe y x = false) → Up (putR l x)
  | [], x, _, _ => by rw [putR_nil]; exact List.pairwise_singleton _ _
  | y :: t, x, h, hx => by
    obtain ⟨h1, h2⟩ := List.pairwise_cons.1 h
    cases hc : rlt y x
    · rw [putR_here t hc]
      have hxy := rlt_next hc (hx y (by simp))
      refine List.pairwise_cons.2 ⟨fun z hz => ?_, h⟩
      rcases List.mem_cons.1 hz with rfl | hz
      · exact hxy
      · exact rlt_tr hxy (h1 z hz)
    · rw [putR_less t hc]
      refine List.pairwise_cons.2 ⟨fun z hz => ?_, putR_up t x h2 (fun z hz => hx z (by simp [hz]))⟩
      rcases (putR_mem z t x).1 hz with rfl | hz
      · exact hc
      · exact h1 z hz
/-- One change applied: none where there is none to go. -/
def stepA (out : List Row) (c : Chg) : Option (List Row) :=
  if findR out c.r < 0 then (if c.gone then none else some (putR out c.r)) else if c.gone then some (out.eraseIdx (findR out c.r).toNat) else some (out.set (findR out c.r).toNat c.r)
theorem cut_at {l : List Row} {k : Nat} (hk : k < l.length) : ∃ A B, l = A ++ l[k] :: B ∧ A.length = k := by
  refine ⟨l.take k, l.drop (k + 1), ?_, by rw [List.length_take]; omega⟩
  rw [← List.drop_eq_getElem_cons hk, List.take_append_drop]
theorem up_cut {A B : List Row} {y : Row} : Up (A ++ y :: B) ↔ Up A ∧ Up B ∧ (∀ a ∈ A, rlt a y = true) ∧ (∀ b ∈ B, rlt y b = true) := by
  unfold Up
  rw [List.pairwise_append, List.pairwise_cons]
  constructor
  · rintro ⟨h1, ⟨h2, h3⟩, h4⟩
    exact ⟨h1, h3, fun a ha => h4 a ha y (by simp), h2⟩
  · rintro ⟨h1, h2, h3, h4⟩
    refine ⟨h1, ⟨h4, h2⟩, fun a ha b hb => ?_⟩
    rcases List.mem_cons.1 hb with rfl | hb
    · exact h3 a ha
    · exact rlt_tr (h3 a ha) (h4 b hb)
theorem stepA_none {out : List Row} {c : Chg} : stepA out c = none ↔ c.gone = true ∧ ∀ x ∈ out, pe x c.r = false := by
  unfold stepA
  rw [← findR_neg]
  by_cases h : findR out c.r < 0
  · rw [if_pos h]
    cases hg : c.gone <;> simp [h]
  · rw [if_neg h]
    cases hg : c.gone <;> simp [h]
theorem stepA_some {out m : List Row} {c : Chg} (hu : Up out) (h : stepA out c = some m) : Up m ∧ ∀ r, r ∈ m ↔ (c.gone = false ∧ r = c.r) ∨ (r ∈ out ∧ pe r c.r = false) := by
  unfold stepA at h
  rcases findR_cases out c.r with ⟨h1, h2⟩ | ⟨k, hk, h1, h2, h3⟩
  · rw [if_pos (by rw [h1]; decide)] at h
    cases hg : c.gone
    · rw [hg] at h
      simp only [Bool.false_eq_true, if_false, Option.some.injEq] at h
      subst h
      refine ⟨putR_up out c.r hu h2, fun r => ?_⟩
      rw [putR_mem]
      constructor
      · rintro (h | h)
        · exact Or.inl ⟨rfl, h⟩
        · exact Or.inr ⟨h, h2 r h⟩
      · rintro (⟨_, h⟩ | ⟨h, _⟩)
        · exact Or.inl h
        · exact Or.inr h
    · rw [hg] at h; simp at h
  · rw [if_neg (by omega), h1] at h
    simp only [Int.toNat_natCast] at h
    obtain ⟨A, B, e, hA⟩ := cut_at hk
    generalize out[k] = y at e h2
    subst e
    obtain ⟨u1, u2, u3, u4⟩ := up_cut.1 hu
    have pA : ∀ a ∈ A, pe a c.r = false := fun a ha => by rw [← pe_right h2]; exact rlt_apart (u3 a ha)
    have pB : ∀ b ∈ B, pe b c.r = false := fun b hb => by rw [← pe_right h2]; exact rlt_apart' (u4 b hb)
    cases hg : c.gone
    · rw [hg] at h
      simp only [Bool.false_eq_true, if_false, Option.some.injEq] at h
      have e2 : (A ++ y :: B).set k c.r = A ++ c.r :: B := by rw [← hA, List.set_append_right _ _ (Nat.le_refl _)]; simp
      rw [e2] at h; subst h
      refine ⟨up_cut.2 ⟨u1, u2, fun a ha => by rw [← rlt_right h2]; exact u3 a ha, fun b hb => by rw [← rlt_left h2]; exact u4 b hb⟩, fun r => ?_⟩
      simp only [List.mem_append, List.mem_cons]
      constructor
      · rintro (h | h | h)
        · exact Or.inr ⟨Or.inl h, pA r h⟩
        · exact Or.inl ⟨by trivial, h⟩
        · exact Or.inr ⟨Or.inr (Or.inr h), pB r h⟩
      · rintro (⟨_, h⟩ | ⟨h | h | h, hp⟩)
        · exact Or.inr (Or.inl h)
        · exact Or.inl h
        · rw [h, h2] at hp; cases hp
        · exact Or.inr (Or.inr h)
    · rw [hg] at h
      simp only [if_true, Option.some.injEq] at h
      have e2 : (A ++ y :: B).eraseIdx k = A ++ B := by rw [← hA, List.eraseIdx_append_of_length_le (Nat.le_refl _)]; simp
      rw [e2] at h; subst h
      refine ⟨?_, fun r => ?_⟩
      · unfold Up; rw [List.pairwise_append]
        exact ⟨u1, u2, fun a ha b hb => rlt_tr (u3 a ha) (u4 b hb)⟩
      · simp only [List.mem_append, List.mem_cons]
        constructor
        · rintro (h | h)
          · exact Or.inr ⟨Or.inl h, pA r h⟩
          · exact Or.inr ⟨Or.inr (Or.inr h), pB r h⟩
        · rintro (⟨h, _⟩ | ⟨h | h | h, hp⟩)
          · cases h
          · exact Or.inl h
          · rw [h, h2] at hp; cases hp
          · exact Or.inr h
theorem stepA_len {out m : List Row} {c : Chg} (h : stepA out c = some m) : m.length ≤ out.length + 1 := by
  unfold stepA at h
  split at h
  · split at h
    · cases h
    · cases h; rw [putR_len]; omega
  · split at h
    · cases h; have := List.length_eraseIdx_le out (findR out c.r).toNat; omega
    · cases h; rw [List.length_set]; omega
/-- Changes, one behind the other. -/
def applyD : List Row → List Chg → Option (List Row)
  | l, [] => some l
  | l, c :: cs => match stepA l c with
    | none => none
    | some m => applyD m cs
theorem applyD_nil (l : List Row) : applyD l [] = some l := by rw [applyD]
theorem applyD_none {l : List Row} {c : Chg} (cs : List Chg) (h : stepA l c = none) : applyD l (c :: cs) = none := by rw [applyD, h]
theorem applyD_some {l m : List Row} {c : Chg} (cs : List Chg) (h : stepA l c = some m) : applyD l (c :: cs) = applyD m cs := by rw [applyD, h]
theorem applyD_append : ∀ (xs ys : List Chg) (l : List Row), applyD l (xs ++ ys) = (applyD l xs).bind fun m => applyD m ys
  | [], ys, l => by rw [applyD_nil]; rfl
  | x :: xs, ys, l => by
    rw [List.cons_append]
    cases h : stepA l x with
    | none => rw [applyD_none _ h, applyD_none _ h]; rfl
    | some m => rw [applyD_some _ h, applyD_some _ h, applyD_append xs ys m]
theorem applyD_next {cs : List Chg} {l m o : List Row} {k : Nat} (hk : k < cs.length) (h : applyD l (cs.take k) = some m) (hs : stepA m cs[k] = some o) : applyD l (cs.take (k + 1)) = some o := by
  rw [List.take_succ_eq_append_getElem hk, applyD_append, h]
  show applyD m [cs[k]] = some o
  rw [applyD_some _ hs, applyD_nil]
theorem applyD_stop {cs : List Chg} {l m : List Row} {k : Nat} (hk : k < cs.length) (h : applyD l (cs.take k) = some m) (hs : stepA m cs[k] = none) : applyD l cs = none := by
  have e : cs = cs.take k ++ cs[k] :: cs.drop (k + 1) := by rw [← List.drop_eq_getElem_cons hk, List.take_append_drop]
  rw [e, applyD_append, h]
  exact applyD_none _ hs
theorem applyD_facts : ∀ (cs : List Chg) (l : List Row), Up l → UpC cs →
    ((∃ c ∈ cs, c.gone = true ∧ ∀ x ∈ l, pe x c.r = false) → applyD l cs = none) ∧
    ((∀ c ∈ cs, c.gone = true → ∃ x ∈ l, pe x c.r = true) → ∃ m, applyD l cs = some m ∧ Up m ∧ ∀ r, r ∈ m ↔ (∃ c ∈ cs, c.gone = false ∧ c.r = r) ∨ (r ∈ l ∧ ∀ c ∈ cs, pe r c.r = false))
  | [], l, hl, _ => by
    refine ⟨fun ⟨c, hc, _⟩ => by simp at hc, fun _ => ⟨l, applyD_nil l, hl, fun r => by simp⟩⟩
  | c :: cs, l, hl, hc => by
    obtain ⟨c1, c2⟩ := List.pairwise_cons.1 hc
    cases hs : stepA l c with
    | none =>
      obtain ⟨g1, g2⟩ := stepA_none.1 hs
      refine ⟨fun _ => applyD_none cs hs, fun h => ?_⟩
      obtain ⟨x, hx, hp⟩ := h c (by simp) g1
      rw [g2 x hx] at hp; cases hp
    | some m1 =>
      obtain ⟨m2, m3⟩ := stepA_some hl hs
      obtain ⟨i1, i2⟩ := applyD_facts cs m1 m2 c2
      have key : ∀ c' ∈ cs, (∃ x ∈ l, pe x c'.r = true) ↔ ∃ x ∈ m1, pe x c'.r = true := by
        intro c' hc'
        have hap := rlt_apart (c1 c' hc')
        constructor
        · rintro ⟨x, hx, hp⟩
          refine ⟨x, (m3 x).2 (Or.inr ⟨hx, ?_⟩), hp⟩
          rw [pe_left hp, pe_comm]; exact hap
        · rintro ⟨x, hx, hp⟩
          rcases (m3 x).1 hx with ⟨_, e⟩ | ⟨h, _⟩
          · rw [e, hap] at hp; cases hp
          · exact ⟨x, h, hp⟩
      have key2 : ∀ c' ∈ cs, (∀ x ∈ l, pe x c'.r = false) ↔ ∀ x ∈ m1, pe x c'.r = false := by
        intro c' hc'
        have := key c' hc'
        constructor
        · intro h x hx
          cases hp : pe x c'.r
          · rfl
          · obtain ⟨y, hy, hq⟩ := this.2 ⟨x, hx, hp⟩
            rw [h y hy] at hq; cases hq
        · intro h x hx
          cases hp : pe x c'.r
          · rfl
          · obtain ⟨y, hy, hq⟩ := this.1 ⟨x, hx, hp⟩
            rw [h y hy] at hq; cases hq
      rw [applyD_some cs hs]
      refine ⟨?_, fun h => ?_⟩
      · rintro ⟨c', hc', hg, hn⟩
        rcases List.mem_cons.1 hc' with rfl | hc'
        · rw [stepA_none.2 ⟨hg, hn⟩] at hs; cases hs
        · exact i1 ⟨c', hc', hg, (key2 c' hc').1 hn⟩
      · obtain ⟨m, h1, h2, h3⟩ := i2 (fun c' hc' hg => (key c' hc').1 (h c' (by simp [hc']) hg))
        refine ⟨m, h1, h2, fun r => ?_⟩
        rw [h3 r, m3 r]
        constructor
        · rintro (⟨c', hc', hg, e⟩ | ⟨⟨hg, e⟩ | ⟨hr, hp⟩, hn⟩)
          · exact Or.inl ⟨c', by simp [hc'], hg, e⟩
          · exact Or.inl ⟨c, by simp, hg, e.symm⟩
          · refine Or.inr ⟨hr, fun c' hc' => ?_⟩
            rcases List.mem_cons.1 hc' with rfl | hc'
            · exact hp
            · exact hn c' hc'
        · rintro (⟨c', hc', hg, e⟩ | ⟨hr, hn⟩)
          · rcases List.mem_cons.1 hc' with rfl | hc'
            · refine Or.inr ⟨Or.inl ⟨hg, e.symm⟩, fun d hd => ?_⟩
              rw [← e]; exact rlt_apart (c1 d hd)
            · exact Or.inl ⟨c', hc', hg, e⟩
          · exact Or.inr ⟨Or.inr ⟨hr, hn c (by simp)⟩, fun c' hc' => hn c' (by simp [hc'])⟩
theorem applyD_len : ∀ (cs : List Chg) (l : List Row) {m : List Row}, applyD l cs = some m → m.length ≤ l.length + cs.length
  | [], l, m, h => by rw [applyD_nil] at h; cases h; simp
  | c :: cs, l, m, h => by
    cases hs : stepA l c with
    | none => rw [applyD_none cs hs] at h; cases h
    | some o =>
      rw [applyD_some cs hs] at h
      have h1 := applyD_len cs o h
      have h2 := stepA_len hs
      simp only [List.length_cons]; omega

/-! ### there and back -/
theorem back {a b : List Row} (ha : Up a) (hb : Up b) : applyD a (ofD a b) = some b := by
  obtain ⟨_, h2⟩ := applyD_facts (ofD a b) a ha (ofD_up ha hb)
  obtain ⟨m, e, hm, h⟩ := h2 (by
    intro c hc hg
    rcases (ofD_mem ha c).1 hc with ⟨r, _, _, rfl⟩ | ⟨r, hr, _, rfl⟩
    · cases hg
    · exact ⟨r, hr, pe_symm (gone_pe r)⟩)
  rw [e]
  have : m = b := by
    refine rows_ext hm hb (fun r => ?_)
    rw [h r]
    constructor
    · rintro (⟨c, hc, hg, e⟩ | ⟨hr, hn⟩)
      · rcases (ofD_mem ha c).1 hc with ⟨s, hs, _, rfl⟩ | ⟨s, _, _, rfl⟩
        · rw [← e]; exact hs
        · cases hg
      · by_cases hx : ∀ x ∈ b, pe x r = false
        · have := hn (goneC r) ((ofD_mem ha _).2 (Or.inr ⟨r, hr, hx, rfl⟩))
          rw [pe_symm (gone_pe r)] at this; cases this
        · obtain ⟨x, hx⟩ := Classical.not_forall.1 hx
          obtain ⟨hxb, hxp⟩ := Classical.not_imp.1 hx
          have hp : pe x r = true := by simpa using hxp
          by_cases hxa : x ∈ a
          · have := up_one ha hxa hr hp; rw [← this]; exact hxb
          · have := hn (comeC x) ((ofD_mem ha _).2 (Or.inl ⟨x, hxb, hxa, rfl⟩))
            have hq : pe r (comeC x).r = true := pe_symm hp
            rw [hq] at this; cases this
    · intro hr
      by_cases hra : r ∈ a
      · refine Or.inr ⟨hra, fun c hc => ?_⟩
        rcases (ofD_mem ha c).1 hc with ⟨s, hs, hsa, rfl⟩ | ⟨s, _, hsn, rfl⟩
        · cases hp : pe r (comeC s).r
          · rfl
          · have := up_one hb hr hs hp; rw [this] at hra; exact absurd hra hsa
        · rw [pe_right (gone_pe s)]; exact hsn r hr
      · exact Or.inl ⟨comeC r, (ofD_mem ha _).2 (Or.inl ⟨r, hr, hra, rfl⟩), rfl, rfl⟩
  rw [this]
theorem ofD_none {a b : List Row} (ha : Up a) (hb : Up b) : ofD a b = [] ↔ a = b := by
  constructor
  · intro h
    have := back ha hb
    rw [h, applyD_nil] at this
    cases this; rfl
  · rintro rfl
    rw [List.eq_nil_iff_forall_not_mem]
    intro c hc
    rcases (ofD_mem ha c).1 hc with ⟨r, hr, hn, _⟩ | ⟨r, hr, hn, _⟩
    · exact hn hr
    · have := hn r hr; rw [pe_refl] at this; cases this

/-! ### changes in order -/
/-- Of those that go the value is 0. -/
def zeroV (c : Chg) : Bool := !c.gone || (decide (c.r.n = 0) && !c.r.ov)
theorem zeroV_true {c : Chg} : zeroV c = true ↔ (c.gone = true → c.r.n = 0 ∧ c.r.ov = false) := by
  unfold zeroV
  cases c.gone <;> cases c.r.ov <;> simp
def cright (l : List Chg) : Bool := l.all zeroV && rright (l.map fun c => c.r)
theorem cright_not {l : List Chg} {k : Nat} (hk : k < l.length) (h : zeroV l[k] = false) : cright l = false := by
  unfold cright
  have : l.all zeroV = false := by
    rw [List.all_eq_false]; exact ⟨l[k], List.getElem_mem hk, by simp [h]⟩
  rw [this]; rfl
theorem cright_rows {l : List Chg} (h : ∀ k (hk : k < l.length), zeroV l[k] = true) : cright l = rright (l.map fun c => c.r) := by
  unfold cright
  have : l.all zeroV = true := by
    rw [List.all_eq_true]; intro x hx
    obtain ⟨i, hi, rfl⟩ := List.mem_iff_getElem.1 hx
    exact h i hi
  rw [this]; rfl
theorem cright_true {l : List Chg} : cright l = true ↔ (∀ c ∈ l, zeroV c = true) ∧ (∀ c ∈ l, grpE c.r.grp = 0) ∧ UpC l := by
  unfold cright
  rw [Bool.and_eq_true, List.all_eq_true, rright_true, up_rise, ← upC_map]
  constructor
  · rintro ⟨h1, h2, h3⟩
    exact ⟨h1, fun c hc => h2 _ (List.mem_map.2 ⟨c, hc, rfl⟩), h3⟩
  · rintro ⟨h1, h2, h3⟩
    refine ⟨h1, fun r hr => ?_, h3⟩
    obtain ⟨c, hc, rfl⟩ := List.mem_map.1 hr
    exact h2 c hc
theorem rright_up {l : List Row} (h : rright l = true) : Up l := up_rise.1 (rright_true.1 h).2
theorem ofD_right {a b : List Row} (ha : rright a = true) (hb : rright b = true) : cright (ofD a b) = true := by
  have ua := rright_up ha
  have ub := rright_up hb
  refine cright_true.2 ⟨fun c hc => ?_, fun c hc => ?_, ofD_up ua ub⟩
  · rcases (ofD_mem ua c).1 hc with ⟨r, _, _, rfl⟩ | ⟨r, _, _, rfl⟩
    · rfl
    · rfl
  · rcases (ofD_mem ua c).1 hc with ⟨r, hr, _, rfl⟩ | ⟨r, hr, _, rfl⟩
    · exact (rright_true.1 hb).1 r hr
    · exact (rright_true.1 ha).1 r hr
theorem ofD_ok {a b : List Row} (ua : Up a) (ha : ∀ r ∈ a, okR r) (hb : ∀ r ∈ b, okR r) : ∀ c ∈ ofD a b, okR c.r := by
  intro c hc
  rcases (ofD_mem ua c).1 hc with ⟨r, hr, _, rfl⟩ | ⟨r, hr, _, rfl⟩
  · exact hb r hr
  · refine ⟨(ha r hr).1, ?_⟩
    show ok64 0
    exact ⟨by decide, by decide⟩
/-- What is answered: the changes, and the error. -/
def ofE (a b : List Row) : List Chg × Int := if rright a = true ∧ rright b = true then (ofD a b, 0) else ([], 9)
theorem ofE_ok {a b : List Row} (ha : rright a = true) (hb : rright b = true) : ofE a b = (ofD a b, 0) := by unfold ofE; rw [if_pos ⟨ha, hb⟩]
theorem ofE_left {a b : List Row} (ha : rright a = false) : ofE a b = ([], 9) := by unfold ofE; rw [if_neg (by simp [ha])]
theorem ofE_right {a b : List Row} (hb : rright b = false) : ofE a b = ([], 9) := by unfold ofE; rw [if_neg (by simp [hb])]
theorem ofE_cases (a b : List Row) : (rright a = true ∧ rright b = true ∧ ofE a b = (ofD a b, 0)) ∨ ((rright a = false ∨ rright b = false) ∧ ofE a b = ([], 9)) := by
  cases ha : rright a
  · exact Or.inr ⟨Or.inl rfl, ofE_left ha⟩
  · cases hb : rright b
    · exact Or.inr ⟨Or.inr rfl, ofE_right hb⟩
    · exact Or.inl ⟨rfl, rfl, ofE_ok ha hb⟩
def applyE (l : List Row) (cs : List Chg) : List Row × Int :=
  if rright l = true ∧ cright cs = true then (match applyD l cs with | some m => (m, 0) | none => ([], 6)) else ([], 9)
theorem applyE_left {l : List Row} {cs : List Chg} (h : rright l = false) : applyE l cs = ([], 9) := by unfold applyE; rw [if_neg (by simp [h])]
theorem applyE_right {l : List Row} {cs : List Chg} (h : cright cs = false) : applyE l cs = ([], 9) := by unfold applyE; rw [if_neg (by simp [h])]
theorem applyE_some {l m : List Row} {cs : List Chg} (h1 : rright l = true) (h2 : cright cs = true) (h : applyD l cs = some m) : applyE l cs = (m, 0) := by unfold applyE; rw [if_pos ⟨h1, h2⟩, h]
theorem applyE_none {l : List Row} {cs : List Chg} (h1 : rright l = true) (h2 : cright cs = true) (h : applyD l cs = none) : applyE l cs = ([], 6) := by unfold applyE; rw [if_pos ⟨h1, h2⟩, h]
theorem applyE_back {a b : List Row} (ha : rright a = true) (hb : rright b = true) : applyE a (ofD a b) = (b, 0) :=
  applyE_some ha (ofD_right ha hb) (back (rright_up ha) (rright_up hb))

/-! ### their text -/
def ctxt (c : Chg) : List UInt8 := if c.gone then 33 :: (Lib.itoa c.r.win ++ 124 :: gl c.r) else rtxt c.r
theorem ctxt_gone {c : Chg} (h : c.gone = true) : ctxt c = 33 :: (Lib.itoa c.r.win ++ 124 :: gl c.r) := by unfold ctxt; rw [if_pos h]
theorem ctxt_come {c : Chg} (h : c.gone = false) : ctxt c = rtxt c.r := by unfold ctxt; rw [if_neg (by simp [h])]
theorem rtext_one (r : Row) : rtext [r] = rtxt r := by unfold rtext; rw [if_neg (by simp)]; simp [Lib.join]
def ctext (l : List Chg) : List UInt8 := if l = [] then [45] else Lib.join (l.map ctxt) [59]
theorem ctext_nil : ctext [] = [45] := rfl
theorem ctext_some {l : List Chg} (h : l ≠ []) : ctext l = Lib.join (l.map ctxt) [59] := by unfold ctext; rw [if_neg h]
/-- The change of a part. -/
def goneRead (q : List UInt8) : Chg × Int :=
  match Word.parts 124 q with
  | [a, b] => if (Sat.read a).2 = 0 then (if grpE (bb b) = 0 then (⟨⟨(Sat.read a).1, bb b, 0, false⟩, true⟩, 0) else (zchg, grpE (bb b))) else (zchg, (Sat.read a).2)
  | _ => (zchg, 2)
theorem goneRead_two {q a b : List UInt8} (h : Word.parts 124 q = [a, b]) : goneRead q = if (Sat.read a).2 = 0 then (if grpE (bb b) = 0 then (⟨⟨(Sat.read a).1, bb b, 0, false⟩, true⟩, 0) else (zchg, grpE (bb b))) else (zchg, (Sat.read a).2) := by
  unfold goneRead; rw [h]
theorem goneRead_else {q : List UInt8} (h : (Word.parts 124 q).length ≠ 2) : goneRead q = (zchg, 2) := by
  unfold goneRead
  split
  · rename_i a b e; rw [e] at h; exact absurd rfl h
  · rfl
def comeRead (p : List UInt8) : Chg × Int := if (rparse p).2 = 0 then (⟨(rparse p).1.headD zrow, false⟩, 0) else (zchg, (rparse p).2)
def cread (p : List UInt8) : Chg × Int := if p = [45] then (zchg, 2) else if p.head? = some 33 then goneRead (p.drop 1) else comeRead p
theorem cread_bar : cread [45] = (zchg, 2) := rfl
theorem cread_gone (q : List UInt8) : cread (33 :: q) = goneRead q := by
  unfold cread; rw [if_neg (by simp), if_pos (by rfl)]; rfl
theorem cread_come {p : List UInt8} (h1 : p ≠ [45]) (h2 : p.head? ≠ some 33) : cread p = comeRead p := by
  unfold cread; rw [if_neg h1, if_neg h2]
theorem parts_self {c : UInt8} {p : List UInt8} (h : c ∉ p) : Word.parts c p = [p] := by
  have := Word.parts_join c [p] (by simp) (fun x hx => by simp at hx; subst hx; exact h)
  simpa [Lib.join] using this
theorem parts_clean (c : UInt8) : ∀ (l : List UInt8), ∀ p ∈ Word.parts c l, c ∉ p
  | [], p, hp => by simp [Word.parts] at hp; subst hp; simp
  | b :: l, p, hp => by
    by_cases h : b = c
    · subst h
      rw [Word.parts_hit] at hp
      rcases List.mem_cons.1 hp with rfl | hp
      · simp
      · exact parts_clean b l p hp
    · rw [Word.parts_miss b c l h] at hp
      have ih := parts_clean c l
      cases hq : Word.parts c l with
      | nil => exact absurd hq (Word.parts_ne c l)
      | cons q t =>
        rw [hq] at hp ih
        have e : Word.onto [b] (q :: t) = (b :: q) :: t := rfl
        rw [e] at hp
        rcases List.mem_cons.1 hp with rfl | hp
        · rw [List.mem_cons]
          rintro (h1 | h1)
          · exact h h1.symm
          · exact ih q (by simp) h1
        · exact ih p (by simp [hp])
theorem rall_one (p : List UInt8) : rall [p] = if (rread p).2 = 0 then ([(rread p).1], 0) else ([], (rread p).2) := by
  by_cases h : (rread p).2 = 0
  · rw [if_pos h, rall_ok (ps := [p]) (fun j hj => by have : j = 0 := by simpa using hj
                                                      subst this; exact h)]
    rfl
  · rw [if_neg h, rall_bad (ps := [p]) (k := 0) (by simp) (fun j hj hjk => by omega) h]
    rfl
theorem rparse_one {p : List UInt8} (h1 : p ≠ [45]) (h2 : (59 : UInt8) ∉ p) : rparse p = if (rread p).2 = 0 then ([(rread p).1], 0) else ([], (rread p).2) := by
  unfold rparse
  rw [if_neg h1, parts_self h2, rall_one]
  by_cases h : (rread p).2 = 0
  · rw [if_pos h, if_pos rfl, if_pos (rise_one _)]
  · rw [if_neg h, if_neg h]
theorem comeRead_one {p : List UInt8} (h1 : p ≠ [45]) (h2 : (59 : UInt8) ∉ p) : comeRead p = if (rread p).2 = 0 then (⟨(rread p).1, false⟩, 0) else (zchg, (rread p).2) := by
  unfold comeRead
  rw [rparse_one h1 h2]
  by_cases h : (rread p).2 = 0
  · rw [if_pos h, if_pos rfl, if_pos h]; rfl
  · rw [if_neg h, if_neg h, if_neg h]
/-- All of them, or the first error. -/
def call (ps : List (List UInt8)) : List Chg × Int :=
  match ps.find? (fun p => decide (¬ (cread p).2 = 0)) with
  | some p => ([], (cread p).2)
  | none => (ps.map fun p => (cread p).1, 0)
theorem call_bad {ps : List (List UInt8)} {k : Nat} (hk : k < ps.length) (h1 : ∀ j (hj : j < ps.length), j < k → (cread ps[j]).2 = 0) (h2 : ¬ (cread ps[k]).2 = 0) : call ps = ([], (cread ps[k]).2) := by
  unfold call
  have : ps.find? (fun p => decide (¬ (cread p).2 = 0)) = some ps[k] := by
    rw [List.find?_eq_some_iff_getElem]
    refine ⟨by simp [h2], k, hk, rfl, fun j hj => ?_⟩
    simp [h1 j (by omega) hj]
  rw [this]
theorem call_ok {ps : List (List UInt8)} (h : ∀ j (hj : j < ps.length), (cread ps[j]).2 = 0) : call ps = (ps.map fun p => (cread p).1, 0) := by
  unfold call
  have : ps.find? (fun p => decide (¬ (cread p).2 = 0)) = none := by
    rw [List.find?_eq_none]; intro x hx
    obtain ⟨i, hi, rfl⟩ := List.mem_iff_getElem.1 hx
    simp [h i hi]
  rw [this]
theorem call_zero {ps : List (List UInt8)} (h : (call ps).2 = 0) : ∀ p ∈ ps, (cread p).2 = 0 := by
  unfold call at h
  cases hf : ps.find? (fun p => decide (¬ (cread p).2 = 0)) with
  | none =>
    rw [List.find?_eq_none] at hf
    intro p hp; simpa using hf p hp
  | some p =>
    rw [hf] at h
    have := List.find?_some hf
    simp at this; exact absurd h this
/-- What a text tells. -/
def cparse (s : List UInt8) : List Chg × Int :=
  if s = [45] then ([], 0) else if (call (Word.parts 59 s)).2 = 0 then (if cright (call (Word.parts 59 s)).1 then call (Word.parts 59 s) else ([], 9)) else ([], (call (Word.parts 59 s)).2)
theorem cparse_bar : cparse [45] = ([], 0) := rfl
theorem cparse_bad {s : List UInt8} (h : s ≠ [45]) (h1 : ¬ (call (Word.parts 59 s)).2 = 0) : cparse s = ([], (call (Word.parts 59 s)).2) := by unfold cparse; rw [if_neg h, if_neg h1]
theorem cparse_order {s : List UInt8} (h : s ≠ [45]) (h1 : (call (Word.parts 59 s)).2 = 0) (h2 : cright (call (Word.parts 59 s)).1 = false) : cparse s = ([], 9) := by unfold cparse; rw [if_neg h, if_pos h1, if_neg (by simp [h2])]
theorem cparse_ok {s : List UInt8} (h : s ≠ [45]) (h1 : (call (Word.parts 59 s)).2 = 0) (h2 : cright (call (Word.parts 59 s)).1 = true) : cparse s = call (Word.parts 59 s) := by unfold cparse; rw [if_neg h, if_pos h1, if_pos h2]

/-! ### there and back -/
theorem itoa_head (n : Int) : (Lib.itoa n).head? ≠ some 33 ∧ Lib.itoa n ≠ [] := by
  have hx : ∀ u, (33 : UInt8) ∉ Lib.decDigits u := by
    intro u h
    have := List.all_eq_true.1 (Sat.dec_facts u).1 33 h
    rw [Sat.dgt_iff] at this
    have e : (33 : UInt8).toNat = 33 := rfl
    omega
  have hne : Lib.itoa n ≠ [] := by
    unfold Lib.itoa
    split
    · simp
    · obtain ⟨_, _, c, r, e, _⟩ := Sat.dec_facts n.toNat
      rw [e]; simp
  refine ⟨fun h => ?_, hne⟩
  have hm : (33 : UInt8) ∈ Lib.itoa n := List.mem_of_mem_head? h
  unfold Lib.itoa at hm
  split at hm
  · rcases List.mem_cons.1 hm with h | h
    · cases h
    · exact hx _ h
  · exact hx _ hm
theorem rtxt_head (r : Row) : (rtxt r).head? ≠ some 33 := by
  obtain ⟨h1, h2⟩ := itoa_head r.win
  unfold rtxt
  rw [List.head?_append]
  cases hq : (Lib.itoa r.win).head? with
  | none => rw [List.head?_eq_none_iff] at hq; exact absurd hq h2
  | some x => rw [hq] at h1; simpa using h1
theorem rtxt_bar (r : Row) : rtxt r ≠ [45] := by
  intro e
  have hm : (124 : UInt8) ∈ rtxt r := by unfold rtxt; simp
  rw [e] at hm; simp at hm
theorem gone_parts {r : Row} (h : grpE r.grp = 0) : Word.parts 124 (Lib.itoa r.win ++ 124 :: gl r) = [Lib.itoa r.win, gl r] := by
  have e : Lib.itoa r.win ++ 124 :: gl r = Lib.join [Lib.itoa r.win, gl r] [124] := by simp [Lib.join]
  rw [e]
  refine Word.parts_join 124 _ (by simp) (fun x hx => ?_)
  simp only [List.mem_cons, List.not_mem_nil, or_false] at hx
  rcases hx with rfl | rfl
  · exact itoa_no _ _ (by decide)
  · exact value_no h 124 (by decide) (by decide) (by decide)
theorem cread_text {c : Chg} (h : grpE c.r.grp = 0) (hz : zeroV c = true) (ho : okR c.r) : cread (ctxt c) = (c, 0) := by
  cases hg : c.gone
  · rw [ctxt_come hg, cread_come (rtxt_bar _) (rtxt_head _), comeRead_one (rtxt_bar _) (rtxt_no h), rread_text h ho, if_pos rfl]
    show ((⟨c.r, false⟩ : Chg), (0 : Int)) = (c, 0)
    rw [← hg]
  · rw [ctxt_gone hg, cread_gone, goneRead_two (gone_parts h), Sat.read_itoa _ ho.1.1 ho.1.2]
    have e : bb (gl c.r) = c.r.grp := bb_eq _
    rw [e, if_pos rfl, if_pos h]
    obtain ⟨z1, z2⟩ := zeroV_true.1 hz hg
    have : c = ⟨⟨c.r.win, c.r.grp, 0, false⟩, true⟩ := chg_ext (row_ext rfl rfl z1 z2) hg
    rw [this]
theorem ctxt_no {c : Chg} (h : grpE c.r.grp = 0) : (59 : UInt8) ∉ ctxt c := by
  cases hg : c.gone
  · rw [ctxt_come hg]; exact rtxt_no h
  · rw [ctxt_gone hg, List.mem_cons, List.mem_append, List.mem_cons]
    rintro (h1 | h1 | h1 | h1)
    · cases h1
    · exact itoa_no _ _ (by decide) h1
    · cases h1
    · exact value_no h 59 (by decide) (by decide) (by decide) h1
theorem ctext_bar {l : List Chg} (h : l ≠ []) : ctext l ≠ [45] := by
  intro e
  obtain ⟨c, t, rfl⟩ := List.exists_cons_of_ne_nil h
  have hm : (124 : UInt8) ∈ ctext (c :: t) := by
    rw [ctext_some h]
    refine mem_join 59 (x := ctxt c) (by simp) ?_
    cases hg : c.gone
    · rw [ctxt_come hg]; unfold rtxt; simp
    · rw [ctxt_gone hg]; simp
  rw [e] at hm; simp at hm
/-- Changes in order are parsed from their text as they were. -/
theorem cparse_text {l : List Chg} (h : cright l = true) (ho : ∀ c ∈ l, okR c.r) : cparse (ctext l) = (l, 0) := by
  obtain ⟨h1, h2, h3⟩ := cright_true.1 h
  by_cases he : l = []
  · subst he; rfl
  · have hp : Word.parts 59 (ctext l) = l.map ctxt := by
      rw [ctext_some he]
      refine Word.parts_join 59 _ (by simpa using he) (fun x hx => ?_)
      obtain ⟨c, hc, rfl⟩ := List.mem_map.1 hx
      exact ctxt_no (h2 c hc)
    have hr : ∀ c ∈ l, cread (ctxt c) = (c, 0) := fun c hc => cread_text (h2 c hc) (h1 c hc) (ho c hc)
    have ha : call (l.map ctxt) = (l, 0) := by
      rw [call_ok (fun j hj => by rw [List.getElem_map, hr _ (List.getElem_mem _)]), List.map_map]
      congr 1
      have : l.map ((fun p => (cread p).1) ∘ ctxt) = l.map id := List.map_congr_left (fun c hc => by simp [hr c hc])
      rw [this, List.map_id]
    have hq : call (Word.parts 59 (ctext l)) = (l, 0) := by rw [hp, ha]
    rw [cparse_ok (ctext_bar he) (by rw [hq]) (by rw [hq]; exact h), hq]
theorem cread_back {p : List UInt8} (h59 : (59 : UInt8) ∉ p) (h : (cread p).2 = 0) : ctxt (cread p).1 = p ∧ grpE (cread p).1.r.grp = 0 ∧ okR (cread p).1.r ∧ zeroV (cread p).1 = true := by
  by_cases hb : p = [45]
  · subst hb; rw [cread_bar] at h; cases h
  · by_cases hh : p.head? = some 33
    · obtain ⟨q, rfl⟩ : ∃ q, p = 33 :: q := by
        cases p with
        | nil => simp at hh
        | cons x q => simp at hh; subst hh; exact ⟨q, rfl⟩
      rw [cread_gone] at h ⊢
      by_cases hl : (Word.parts 124 q).length = 2
      · obtain ⟨a, b, e⟩ : ∃ a b, Word.parts 124 q = [a, b] := by
          match hq : Word.parts 124 q, hl with
          | [a, b], _ => exact ⟨a, b, rfl⟩
        rw [goneRead_two e] at h ⊢
        by_cases h1 : (Sat.read a).2 = 0
        · rw [if_pos h1] at h ⊢
          by_cases h2 : grpE (bb b) = 0
          · rw [if_pos h2]
            refine ⟨?_, h2, ⟨Sat.read_bounds a, by show ok64 0; exact ⟨by decide, by decide⟩⟩, rfl⟩
            rw [ctxt_gone rfl]
            simp only [gl, bb_list]
            rw [Sat.itoa_read a h1]
            have : a ++ 124 :: b = Lib.join [a, b] [124] := by simp [Lib.join]
            rw [this, ← e, Word.join_parts]
          · rw [if_neg h2] at h; exact absurd h h2
        · rw [if_neg h1] at h; exact absurd h h1
      · rw [goneRead_else hl] at h; cases h
    · rw [cread_come hb hh, comeRead_one hb h59] at h ⊢
      by_cases h1 : (rread p).2 = 0
      · rw [if_pos h1]
        obtain ⟨b1, b2, b3⟩ := rread_back h1
        exact ⟨by rw [ctxt_come rfl]; exact b1, b2, b3, rfl⟩
      · rw [if_neg h1] at h; exact absurd h h1
theorem cparse_err {s : List UInt8} (h : ¬ (cparse s).2 = 0) : (cparse s).1 = [] := by
  by_cases h0 : s = [45]
  · subst h0; rfl
  · by_cases h1 : (call (Word.parts 59 s)).2 = 0
    · cases h2 : cright (call (Word.parts 59 s)).1
      · rw [cparse_order h0 h1 h2]
      · rw [cparse_ok h0 h1 h2] at h; exact absurd h1 h
    · rw [cparse_bad h0 h1]
/-- What is parsed has just that text. -/
theorem cparse_back {s : List UInt8} (h : (cparse s).2 = 0) : ctext (cparse s).1 = s ∧ cright (cparse s).1 = true ∧ ∀ c ∈ (cparse s).1, okR c.r := by
  by_cases h0 : s = [45]
  · subst h0; exact ⟨rfl, rfl, fun c hc => by cases hc⟩
  · by_cases h1 : (call (Word.parts 59 s)).2 = 0
    · cases h2 : cright (call (Word.parts 59 s)).1
      · rw [cparse_order h0 h1 h2] at h; cases h
      · rw [cparse_ok h0 h1 h2]
        have hz := call_zero h1
        have ha := call_ok (ps := Word.parts 59 s) (fun j hj => hz _ (List.getElem_mem hj))
        refine ⟨?_, h2, ?_⟩
        · rw [ha, ctext_some (by simpa using Word.parts_ne 59 s), List.map_map]
          have : (Word.parts 59 s).map (ctxt ∘ fun p => (cread p).1) = (Word.parts 59 s).map id := List.map_congr_left (fun p hp => (cread_back (parts_clean 59 s p hp) (hz p hp)).1)
          rw [this, List.map_id, Word.join_parts]
        · rw [ha]
          intro c hc
          obtain ⟨p, hp, rfl⟩ := List.mem_map.1 hc
          exact (cread_back (parts_clean 59 s p hp) (hz p hp)).2.2.1
    · rw [cparse_bad h0 h1] at h; exact absurd h h1

end Go.Proofs.YtehgpibngalhfaaGreatDoor.Df
