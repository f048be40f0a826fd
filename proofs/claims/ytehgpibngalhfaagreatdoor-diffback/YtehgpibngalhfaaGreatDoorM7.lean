/- Plain mathematics of answers over items: merged by their places, in order, the same in whatever order items come, and their counts; no program, no conditions. -/
import Derived.Test.YtehgpibngalhfaaGreatDoorM6
namespace Go.Proofs.YtehgpibngalhfaaGreatDoor.Rw
open Go Tg Pk Ky Qy Go.Sort

/-- An item: a window, a text (of a series, or of a group), a cell. -/
structure Item where
  win : Int
  key : ByteArray
  c : Cl.Cell
instance : Inhabited Item := ⟨⟨0, ⟨#[]⟩, Cl.zero⟩⟩
def zitem : Item := ⟨0, ⟨#[]⟩, Cl.zero⟩
def okI (i : Item) : Prop := ok64 i.win ∧ Cl.okC i.c
def kl (i : Item) : List UInt8 := i.key.data.toList
def klt (a b : Item) : Bool := less (kl a) (kl b)
def kcf (a b : Item) : Int := Lib.compareBytes (kl a) (kl b)
theorem kcf_lt (a b : Item) : decide (kcf a b < 0) = klt a b := by
  rw [Bool.eq_iff_iff, decide_eq_true_eq]; unfold kcf klt; rw [compare_less]
theorem klt_swo : SWO klt := by
  constructor
  · intro x; exact less_irrefl _
  · intro x y z h1 h2; exact less_trans _ _ _ h1 h2
  · intro x y z h1 h2
    cases hc : klt x z
    · rfl
    · exfalso
      unfold klt at *
      rcases less_or (kl x) (kl y) with h | h | h
      · rw [h] at h1; cases h1
      · rw [← h, hc] at h2; cases h2
      · have := less_trans _ _ _ h hc; rw [this] at h2; cases h2
theorem klt_neither {a b : Item} (h1 : klt a b = false) (h2 : klt b a = false) : a.key = b.key := by
  unfold klt at *
  rcases less_or (kl a) (kl b) with h | h | h
  · rw [h] at h1; cases h1
  · exact bb_inj h
  · rw [h] at h2; cases h2

/-- The places of two. -/
def pl (a b : Item) : Bool := plt a.win a.key b.win b.key
def at' (w : Int) (g : ByteArray) (p : Item) : Bool := decide (p.win = w) && eqB p.key g
theorem at_true (w : Int) (g : ByteArray) (p : Item) : at' w g p = true ↔ p.win = w ∧ p.key = g := by
  unfold at'; rw [Bool.and_eq_true, decide_eq_true_eq, eqB_true]
theorem pl_irrefl (a : Item) : pl a a = false := plt_irrefl _ _
theorem pl_trans {a b c : Item} (h1 : pl a b = true) (h2 : pl b c = true) : pl a c = true := plt_trans h1 h2
theorem pl_neither {a b : Item} (h1 : pl a b = false) (h2 : pl b a = false) : a.win = b.win ∧ a.key = b.key := by
  unfold pl at *
  rcases plt_total a.win b.win a.key b.key with h | h | h
  · rw [h] at h1; cases h1
  · exact h
  · rw [h] at h2; cases h2
theorem pl_place {a b c : Item} (hw : b.win = c.win) (hk : b.key = c.key) : pl a b = pl a c := by unfold pl; rw [hw, hk]
theorem pl_place' {a b c : Item} (hw : b.win = c.win) (hk : b.key = c.key) : pl b a = pl c a := by unfold pl; rw [hw, hk]
/-- A cell into its part, in order. -/
def putP : List Item → Item → List Item
  | [], x => [x]
  | y :: r, x => if pl y x then y :: putP r x else if pl x y then x :: y :: r else ⟨y.win, y.key, Cl.two y.c x.c⟩ :: r
theorem putP_nil (x : Item) : putP [] x = [x] := by rw [putP]
theorem putP_less {y x : Item} (r : List Item) (h : pl y x = true) : putP (y :: r) x = y :: putP r x := by rw [putP, if_pos h]
theorem putP_new {y x : Item} (r : List Item) (h : pl y x = false) (h' : pl x y = true) : putP (y :: r) x = x :: y :: r := by rw [putP, if_neg (by simp [h]), if_pos h']
theorem putP_same {y x : Item} (r : List Item) (h : pl y x = false) (h' : pl x y = false) : putP (y :: r) x = ⟨y.win, y.key, Cl.two y.c x.c⟩ :: r := by rw [putP, if_neg (by simp [h]), if_neg (by simp [h'])]
/-- By the place where it comes in. -/
theorem putP_at : ∀ (l : List Item) (x : Item) (k : Nat), k ≤ l.length → (∀ j (hj : j < l.length), j < k → pl l[j] x = true) →
    ((k = l.length → putP l x = l ++ [x]) ∧ ∀ (h : k < l.length), pl l[k] x = false →
      ((pl x l[k] = true → putP l x = l.take k ++ x :: l.drop k) ∧ (pl x l[k] = false → putP l x = l.set k ⟨l[k].win, l[k].key, Cl.two l[k].c x.c⟩)))
  | [], x, k, hk, _ => by
    have : k = 0 := by simpa using hk
    subst this
    exact ⟨fun _ => putP_nil x, fun h => by simp at h⟩
  | y :: r, x, 0, _, _ => by
    refine ⟨fun h => by simp at h, fun _ h => ⟨fun h' => ?_, fun h' => ?_⟩⟩
    · simp only [List.getElem_cons_zero] at h h'
      rw [putP_new r h h']; rfl
    · simp only [List.getElem_cons_zero] at h h'
      rw [putP_same r h h']; rfl
  | y :: r, x, k + 1, hk, hl => by
    have hy : pl y x = true := hl 0 (by simp) (by omega)
    have hk' : k ≤ r.length := by simpa using hk
    obtain ⟨i1, i2⟩ := putP_at r x k hk' (fun j hj hjk => hl (j + 1) (by simpa using hj) (by omega))
    rw [putP_less r hy]
    refine ⟨fun h => ?_, fun h hn => ?_⟩
    · rw [i1 (by simpa using h)]; rfl
    · have h2 : k < r.length := by simpa using h
      obtain ⟨i3, i4⟩ := i2 h2 (by simpa using hn)
      refine ⟨fun h' => ?_, fun h' => ?_⟩
      · rw [i3 (by simpa using h')]; simp
      · rw [i4 (by simpa using h')]; simp
theorem putP_len (l : List Item) (x : Item) : (putP l x).length ≤ l.length + 1 := by
  induction l with
  | nil => rw [putP_nil]; simp
  | cons y r ih =>
    rw [putP]
    split
    · simp only [List.length_cons]; omega
    · split <;> simp
def Strict (l : List Item) : Prop := l.Pairwise fun a b => pl a b = true
theorem putP_ahead (z : Item) : ∀ (l : List Item) (x : Item), (∀ y ∈ l, pl z y = true) → pl z x = true → ∀ y ∈ putP l x, pl z y = true
  | [], x, _, hx, y, hy => by rw [putP_nil] at hy; simp at hy; subst hy; exact hx
  | a :: r, x, hl, hx, y, hy => by
    rw [putP] at hy
    split at hy
    · rcases List.mem_cons.1 hy with rfl | hy
      · exact hl _ (by simp)
      · exact putP_ahead z r x (fun y hy => hl y (by simp [hy])) hx y hy
    · split at hy
      · rcases List.mem_cons.1 hy with rfl | hy
        · exact hx
        · exact hl y hy
      · rcases List.mem_cons.1 hy with rfl | hy
        · have := hl a (by simp)
          rw [pl_place (b := ⟨a.win, a.key, Cl.two a.c x.c⟩) (c := a) rfl rfl]; exact this
        · exact hl y (by simp [hy])
theorem putP_strict : ∀ (l : List Item) (x : Item), Strict l → Strict (putP l x)
  | [], x, _ => by rw [putP_nil]; exact List.pairwise_singleton _ _
  | a :: r, x, h => by
    obtain ⟨h1, h2⟩ := List.pairwise_cons.1 h
    rw [putP]
    split
    · rename_i hc
      exact List.pairwise_cons.2 ⟨putP_ahead a r x h1 hc, putP_strict r x h2⟩
    · split
      · rename_i hc
        exact List.pairwise_cons.2 ⟨fun y hy => by
          rcases List.mem_cons.1 hy with rfl | hy
          · exact hc
          · exact pl_trans hc (h1 y hy), h⟩
      · exact List.pairwise_cons.2 ⟨fun y hy => by
          rw [pl_place' (b := ⟨a.win, a.key, Cl.two a.c x.c⟩) (c := a) rfl rfl]; exact h1 y hy, h2⟩
theorem putP_mem : ∀ (l : List Item) (x p : Item), p ∈ putP l x → p ∈ l ∨ p = x ∨ ∃ y ∈ l, pl y x = false ∧ pl x y = false ∧ p = ⟨y.win, y.key, Cl.two y.c x.c⟩
  | [], x, p, hp => by rw [putP_nil] at hp; simp at hp; exact Or.inr (Or.inl hp)
  | a :: r, x, p, hp => by
    rw [putP] at hp
    split at hp
    · rcases List.mem_cons.1 hp with rfl | hp
      · exact Or.inl (by simp)
      · rcases putP_mem r x p hp with h | h | ⟨y, hy, h⟩
        · exact Or.inl (by simp [h])
        · exact Or.inr (Or.inl h)
        · exact Or.inr (Or.inr ⟨y, by simp [hy], h⟩)
    · rename_i hc
      split at hp
      · rcases List.mem_cons.1 hp with rfl | hp
        · exact Or.inr (Or.inl rfl)
        · exact Or.inl hp
      · rename_i hc'
        rcases List.mem_cons.1 hp with rfl | hp
        · exact Or.inr (Or.inr ⟨a, by simp, by simpa using hc, by simpa using hc', rfl⟩)
        · exact Or.inl (by simp [hp])

/-! ### what stands at a place -/
def look (l : List Item) (w : Int) (g : ByteArray) : Option Cl.Cell := (l.find? (at' w g)).map fun p => p.c
def acc (o : Option Cl.Cell) (c : Cl.Cell) : Option Cl.Cell := some (match o with | some d => Cl.two d c | none => c)
theorem look_nil (w : Int) (g : ByteArray) : look [] w g = none := rfl
theorem look_none {l : List Item} {w : Int} {g : ByteArray} (h : ∀ p ∈ l, at' w g p = false) : look l w g = none := by
  unfold look; rw [List.find?_eq_none.2 (fun p hp => by simp [h p hp])]; rfl
theorem look_cons (y : Item) (r : List Item) (w : Int) (g : ByteArray) : look (y :: r) w g = if at' w g y then some y.c else look r w g := by
  unfold look; rw [List.find?_cons]; cases at' w g y <;> rfl
theorem at_place (w : Int) (g : ByteArray) {a b : Item} (hw : a.win = b.win) (hk : a.key = b.key) : at' w g a = at' w g b := by unfold at'; rw [hw, hk]
/-- Ahead of a place: not at it. -/
theorem at_not {w : Int} {g : ByteArray} {x y : Item} (hx : at' w g x = true) (h : pl x y = true) : at' w g y = false := by
  cases hc : at' w g y
  · rfl
  · obtain ⟨h1, h2⟩ := (at_true w g x).1 hx
    obtain ⟨h3, h4⟩ := (at_true w g y).1 hc
    rw [pl_place (c := x) (by rw [h1, h3]) (by rw [h2, h4]), pl_irrefl] at h; cases h
theorem look_put : ∀ (l : List Item) (x : Item) (w : Int) (g : ByteArray), Strict l → look (putP l x) w g = if at' w g x then acc (look l w g) x.c else look l w g
  | [], x, w, g, _ => by rw [putP_nil, look_cons, look_nil]; rfl
  | a :: r, x, w, g, h => by
    obtain ⟨h1, h2⟩ := List.pairwise_cons.1 h
    cases hax : pl a x
    · cases hxa : pl x a
      · obtain ⟨e1, e2⟩ := pl_neither hax hxa
        rw [putP_same r hax hxa, look_cons, look_cons, at_place w g (a := ⟨a.win, a.key, Cl.two a.c x.c⟩) (b := a) rfl rfl, at_place w g e1 e2]
        cases at' w g x <;> rfl
      · rw [putP_new r hax hxa, look_cons]
        cases hx : at' w g x
        · rfl
        · rw [look_none (l := a :: r) (fun p hp => by
            rcases List.mem_cons.1 hp with rfl | hp
            · exact at_not hx hxa
            · exact at_not hx (pl_trans hxa (h1 p hp)))]
          rfl
    · rw [putP_less r hax, look_cons, look_cons, look_put r x w g h2]
      cases ha : at' w g a
      · rfl
      · rw [at_not ha hax]; rfl
theorem look_fold : ∀ (X l : List Item) (w : Int) (g : ByteArray), Strict l → look (X.foldl putP l) w g = ((X.filter (at' w g)).map fun p => p.c).foldl acc (look l w g) ∧ Strict (X.foldl putP l)
  | [], l, w, g, h => ⟨rfl, h⟩
  | x :: X, l, w, g, h => by
    obtain ⟨i1, i2⟩ := look_fold X (putP l x) w g (putP_strict l x h)
    refine ⟨?_, i2⟩
    rw [List.foldl_cons, i1, look_put l x w g h, List.filter_cons]
    cases at' w g x <;> rfl
theorem look_mem {l : List Item} (h : Strict l) {p : Item} (hp : p ∈ l) : look l p.win p.key = some p.c := by
  induction l with
  | nil => simp at hp
  | cons a r ih =>
    obtain ⟨h1, h2⟩ := List.pairwise_cons.1 h
    rw [look_cons]
    rcases List.mem_cons.1 hp with rfl | hp
    · rw [(at_true _ _ _).2 ⟨rfl, rfl⟩]; rfl
    · have hn : at' p.win p.key a = false := by
        cases hc : at' p.win p.key a
        · rfl
        · have := at_not hc (h1 p hp)
          rw [(at_true _ _ _).2 ⟨rfl, rfl⟩] at this; cases this
      rw [hn]; exact ih h2 hp
theorem look_some {l : List Item} {w : Int} {g : ByteArray} {c : Cl.Cell} (h : look l w g = some c) : (⟨w, g, c⟩ : Item) ∈ l := by
  unfold look at h
  cases hf : l.find? (at' w g) with
  | none => rw [hf] at h; cases h
  | some p =>
    rw [hf] at h
    have h1 := List.find?_some hf
    have h2 := List.mem_of_find?_eq_some hf
    obtain ⟨e1, e2⟩ := (at_true w g p).1 h1
    have e3 : p.c = c := by simpa using h
    subst e1 e2 e3; exact h2
theorem strict_nodup {l : List Item} (h : Strict l) : l.Nodup := by
  refine h.imp ?_
  intro a b hab e; subst e; rw [pl_irrefl] at hab; cases hab
theorem strict_ext {l m : List Item} (hl : Strict l) (hm : Strict m) (h : ∀ w g, look l w g = look m w g) : l = m := by
  have hp : l.Perm m := (List.perm_ext_iff_of_nodup (strict_nodup hl) (strict_nodup hm)).2 (fun p => by
    constructor
    · intro hp; have := look_mem hl hp; rw [h] at this; exact look_some this
    · intro hp; have := look_mem hm hp; rw [← h] at this; exact look_some this)
  refine List.Perm.eq_of_pairwise (le := fun a b => pl a b = true) (fun a b _ _ h1 h2 => ?_) hl hm hp
  have := pl_trans h1 h2; rw [pl_irrefl] at this; cases this

/-! ### answers -/
def keyOf' (i : Item) : Key := (kparse (kl i)).1
/-- Does its cell count in the answer? -/
def asked (q : Query) (i : Item) : Bool := !decide (i.c.cnt < 1) && decide ((kparse (kl i)).2 = 0) && decide (ktextL (kn (keyOf' i)) (keyOf' i).2 = kl i) && qfits q (keyOf' i)
def partOf (q : Query) (i : Item) : Item := ⟨i.win, bb (qgroup q (keyOf' i)), i.c⟩
def partsOf (q : Query) (l : List Item) : List Item := (l.filter (asked q)).map (partOf q)
def mergeP (q : Query) (l : List Item) : List Item := (partsOf q l).foldl putP []
def rowOf (g : Int) (p : Item) : Row := ⟨p.win, p.key, (Cl.val p.c g).1, (Cl.val p.c g).2⟩
def sortK (l : List Item) : List Item := Stb.insL klt l
def answer (q : Query) (l : List Item) : List Row := if qright q then (mergeP q (sortK l)).map (rowOf q.1) else []
theorem partsOf_snoc (q : Query) (l : List Item) (x : Item) : partsOf q (l ++ [x]) = if asked q x then partsOf q l ++ [partOf q x] else partsOf q l := by
  unfold partsOf
  rw [List.filter_append, List.map_append, List.filter_cons]
  cases asked q x <;> simp
theorem mergeP_snoc (q : Query) (l : List Item) (x : Item) : mergeP q (l ++ [x]) = if asked q x then putP (mergeP q l) (partOf q x) else mergeP q l := by
  unfold mergeP
  rw [partsOf_snoc]
  cases asked q x
  · rfl
  · simp [List.foldl_append]
theorem mergeP_nil (q : Query) : mergeP q [] = [] := rfl
theorem mergeP_strict (q : Query) (l : List Item) : Strict (mergeP q l) := (look_fold (partsOf q l) [] 0 ⟨#[]⟩ List.Pairwise.nil).2
theorem mergeP_len (q : Query) (l : List Item) : (mergeP q l).length ≤ l.length := by
  have H : ∀ (X m : List Item), (X.foldl putP m).length ≤ m.length + X.length := by
    intro X
    induction X with
    | nil => intro m; simp
    | cons x X ih => intro m; rw [List.foldl_cons]; have := ih (putP m x); have := putP_len m x; simp only [List.length_cons]; omega
  have h1 := H (partsOf q l) []
  have h2 : (partsOf q l).length ≤ l.length := by unfold partsOf; rw [List.length_map]; exact List.length_filter_le _ _
  unfold mergeP; simp only [List.length_nil] at h1; omega
/-- Every part comes of an item that counts. -/
theorem fold_from {P : Item → Prop} (hP : ∀ y x : Item, P y → P x → pl y x = false → pl x y = false → P ⟨y.win, y.key, Cl.two y.c x.c⟩) : ∀ (X m : List Item), (∀ p ∈ m, P p) → (∀ x ∈ X, P x) → ∀ p ∈ X.foldl putP m, P p
  | [], m, hm, _, p, hp => hm p hp
  | x :: X, m, hm, hX, p, hp => by
    rw [List.foldl_cons] at hp
    refine fold_from hP X (putP m x) (fun p hp => ?_) (fun y hy => hX y (by simp [hy])) p hp
    rcases putP_mem m x p hp with h | h | ⟨y, hy, h1, h2, rfl⟩
    · exact hm p h
    · rw [h]; exact hX x (by simp)
    · exact hP y x (hm y hy) (hX x (by simp)) h1 h2
theorem asked_true {q : Query} {i : Item} (h : asked q i = true) : ¬ i.c.cnt < 1 ∧ (kparse (kl i)).2 = 0 ∧ ktextL (kn (keyOf' i)) (keyOf' i).2 = kl i ∧ qfits q (keyOf' i) = true := by
  unfold asked at h
  simp only [Bool.and_eq_true, Bool.not_eq_true', decide_eq_false_iff_not, decide_eq_true_eq] at h
  exact ⟨h.1.1.1, h.1.1.2, h.1.2, h.2⟩
theorem only_right {l : List Tag} (h : right l = true) (ns : List ByteArray) : right (only l ns) = true := by
  unfold right at *
  simp only [Bool.and_eq_true, decide_eq_true_eq] at h ⊢
  obtain ⟨⟨h1, h2⟩, h3⟩ := h
  refine ⟨⟨?_, ?_⟩, ?_⟩
  · rw [List.all_eq_true] at h1 ⊢
    intro x hx; exact h1 x (List.mem_filter.1 hx).1
  · exact Nat.le_trans (List.length_filter_le _ _) h2
  · rw [rising_strict] at h3 ⊢
    exact h3.filter _
theorem group_ok {q : Query} {i : Item} (h : asked q i = true) : grpE (bb (qgroup q (keyOf' i))) = 0 := by
  have hr : kright (keyOf' i) = true := kparse_ok (asked_true h).2.1
  unfold kright at hr
  simp only [Bool.and_eq_true] at hr
  exact grpE_text (only_right hr.2 _)
theorem answer_right (q : Query) (l : List Item) : rright (answer q l) = true := by
  unfold answer
  cases hq : qright q
  · rfl
  · rw [if_pos rfl, rright_true]
    constructor
    · intro r hr
      obtain ⟨p, hp, rfl⟩ := List.mem_map.1 hr
      have := fold_from (P := fun p => grpE p.key = 0) (fun y x hy _ _ _ => hy) (partsOf q (sortK l)) [] (fun p hp => by simp at hp) (fun x hx => by
        obtain ⟨i, hi, rfl⟩ := List.mem_map.1 hx
        exact group_ok (List.mem_filter.1 hi).2) p hp
      exact this
    · rw [rise_pairwise]
      exact List.Pairwise.map _ (fun a b h => h) (mergeP_strict q (sortK l))
/-- The rows of an answer are numbers of 64 bits, if the items are. -/
theorem mergeP_ok (q : Query) (l : List Item) (h : ∀ i ∈ l, okI i) : ∀ p ∈ mergeP q l, okI p ∧ ¬ p.c.cnt < 1 := by
  refine fold_from (P := fun p => okI p ∧ ¬ p.c.cnt < 1) (fun y x hy hx _ _ => ⟨⟨hy.1.1, Cl.ok_two hy.1.2 hx.1.2⟩, ?_⟩) (partsOf q l) [] (fun p hp => by simp at hp) (fun x hx => ?_)
  · show ¬ (Cl.two y.c x.c).cnt < 1
    rw [Cl.two_ab hx.2 hy.2]
    show ¬ Cl.cnt2 y.c.cnt x.c.cnt < 1
    have h1 := hy.2; have h2 := hx.2
    unfold Cl.cnt2; split <;> omega
  · obtain ⟨i, hi, rfl⟩ := List.mem_map.1 hx
    obtain ⟨h1, h2⟩ := List.mem_filter.1 hi
    exact ⟨⟨(h i h1).1, (h i h1).2⟩, (asked_true h2).1⟩
theorem val_ok {c : Cl.Cell} (h : Cl.okC c) (g : Int) : ok64 (Cl.val c g).1 := by
  unfold Cl.val
  split
  · exact h.1
  · split
    · exact h.2.1
    · split
      · exact h.2.2.1
      · split
        · exact h.2.2.2
        · exact ⟨by decide, by decide⟩
theorem sortK_perm (l : List Item) : (sortK l).Perm l := by
  obtain ⟨T, h1, _, h3⟩ := Stb.tagged klt_swo l
  unfold sortK
  rw [← h3]
  have := h1.map Prod.fst
  rwa [List.zipIdx_map_fst] at this
theorem sortK_sorted (l : List Item) : (sortK l).Pairwise fun a b => klt b a = false := by
  obtain ⟨T, _, h2, h3⟩ := Stb.tagged klt_swo l
  unfold sortK
  rw [← h3]
  refine List.Pairwise.map _ (fun a b h => ?_) h2
  exact ((Stb.tl_false b a).1 h).1
theorem answer_ok (q : Query) (l : List Item) (h : ∀ i ∈ l, okI i) : ∀ r ∈ answer q l, okR r := by
  unfold answer
  cases qright q
  · intro r hr; simp at hr
  · intro r hr
    obtain ⟨p, hp, rfl⟩ := List.mem_map.1 hr
    have := mergeP_ok q (sortK l) (fun i hi => h i ((sortK_perm l).mem_iff.1 hi)) p hp
    exact ⟨this.1.1, val_ok this.1.2 q.1⟩
theorem answer_len (q : Query) (l : List Item) : (answer q l).length ≤ l.length := by
  unfold answer
  cases qright q
  · simp
  · rw [if_pos rfl, List.length_map]
    have := mergeP_len q (sortK l)
    rw [(sortK_perm l).length_eq] at this; exact this

/-! ### in whatever order -/
theorem same_of {l : List Item} (h : l.Pairwise fun a b => ¬ (a.key = b.key ∧ a.win = b.win)) {a b : Item} (ha : a ∈ l) (hb : b ∈ l) (hk : a.key = b.key) (hw : a.win = b.win) : a = b := by
  induction l with
  | nil => simp at ha
  | cons x r ih =>
    obtain ⟨h1, h2⟩ := List.pairwise_cons.1 h
    rcases List.mem_cons.1 ha with e1 | ha2
    · rcases List.mem_cons.1 hb with e2 | hb2
      · rw [e1, e2]
      · exact absurd ⟨hk, hw⟩ (e1 ▸ h1 b hb2)
    · rcases List.mem_cons.1 hb with e2 | hb2
      · exact absurd ⟨hk.symm, hw.symm⟩ (e2 ▸ h1 a ha2)
      · exact ih h2 ha2 hb2
theorem answer_perm (q : Query) {l m : List Item} (hp : l.Perm m) (h : l.Pairwise fun a b => ¬ (a.key = b.key ∧ a.win = b.win)) : answer q l = answer q m := by
  unfold answer
  have key : mergeP q (sortK l) = mergeP q (sortK m) := by
    apply strict_ext (mergeP_strict q _) (mergeP_strict q _)
    intro w g
    unfold mergeP
    rw [(look_fold _ _ w g List.Pairwise.nil).1, (look_fold _ _ w g List.Pairwise.nil).1]
    have e : ∀ L : List Item, ((partsOf q L).filter (at' w g)).map (fun p => p.c) = ((L.filter (fun i => asked q i && at' w g (partOf q i))).map fun i => i.c) := by
      intro L
      unfold partsOf
      rw [List.filter_map, List.filter_filter, List.map_map]
      congr 1
      apply List.filter_congr
      intro i _
      rw [Bool.and_comm]; rfl
    rw [e, e]
    have pm : (sortK l).Perm (sortK m) := (sortK_perm l).trans (hp.trans (sortK_perm m).symm)
    have : (sortK l).filter (fun i => asked q i && at' w g (partOf q i)) = (sortK m).filter (fun i => asked q i && at' w g (partOf q i)) := by
      refine List.Perm.eq_of_pairwise (le := fun a b => klt b a = false) (fun a b ha hb h1 h2 => ?_) ((sortK_sorted l).filter _) ((sortK_sorted m).filter _) (pm.filter _)
      obtain ⟨ha1, ha2⟩ := List.mem_filter.1 ha
      obtain ⟨hb1, hb2⟩ := List.mem_filter.1 hb
      rw [Bool.and_eq_true, at_true] at ha2 hb2
      have wa : a.win = w := ha2.2.1
      have wb : b.win = w := hb2.2.1
      exact same_of h ((sortK_perm l).mem_iff.1 ha1) (hp.mem_iff.2 ((sortK_perm m).mem_iff.1 hb1)) (klt_neither h2 h1) (by rw [wa, wb])
    rw [this]
  rw [key]

/-! ### counts -/
def wsum (w : Int) (l : List Item) : Int := ((l.filter fun p => decide (p.win = w)).map fun p => p.c.cnt).sum
theorem wsum_nil (w : Int) : wsum w [] = 0 := rfl
theorem wsum_cons (w : Int) (p : Item) (l : List Item) : wsum w (p :: l) = (if p.win = w then p.c.cnt else 0) + wsum w l := by
  unfold wsum
  rw [List.filter_cons]
  by_cases h : p.win = w <;> simp [h]
theorem wsum_put (w : Int) : ∀ (l : List Item) (x : Item), (∀ p ∈ l, 1 ≤ p.c.cnt ∧ p.c.cnt ≤ 1000000000000) → 1 ≤ x.c.cnt → x.c.cnt ≤ 1000000000000 → wsum w (putP l x) = wsum w l + (if x.win = w then x.c.cnt else 0)
  | [], x, _, _, _ => by rw [putP_nil, wsum_cons, wsum_nil]; omega
  | a :: r, x, hl, h1, h2 => by
    have ha := hl a (by simp)
    cases hax : pl a x
    · cases hxa : pl x a
      · rw [putP_same r hax hxa, wsum_cons, wsum_cons]
        obtain ⟨e1, _⟩ := pl_neither hax hxa
        have e : (Cl.two a.c x.c).cnt = a.c.cnt + x.c.cnt := by
          rw [Cl.two_ab (by omega) (by omega)]
          show Cl.cnt2 a.c.cnt x.c.cnt = _
          unfold Cl.cnt2; rw [if_neg (by omega)]
        show (if a.win = w then (Cl.two a.c x.c).cnt else 0) + wsum w r = _
        rw [e, e1]
        by_cases hw : x.win = w
        · rw [if_pos hw, if_pos hw, if_pos hw]; omega
        · rw [if_neg hw, if_neg hw, if_neg hw]; omega
      · rw [putP_new r hax hxa, wsum_cons]; omega
    · rw [putP_less r hax, wsum_cons, wsum_cons, wsum_put w r x (fun p hp => hl p (by simp [hp])) h1 h2]; omega
theorem wsum_fold (w : Int) : ∀ (X l : List Item) (k : Nat), (∀ p ∈ l, 1 ≤ p.c.cnt ∧ p.c.cnt ≤ 1000000 * (k : Int)) → (∀ x ∈ X, 1 ≤ x.c.cnt ∧ x.c.cnt ≤ 1000000) → k + X.length ≤ 1000 → wsum w (X.foldl putP l) = wsum w l + wsum w X ∧ ∀ p ∈ X.foldl putP l, 1 ≤ p.c.cnt ∧ p.c.cnt ≤ 1000000 * ((k + X.length : Nat) : Int)
  | [], l, k, hl, _, _ => ⟨by rw [wsum_nil]; simp, by simpa using hl⟩
  | x :: X, l, k, hl, hX, hk => by
    have hx := hX x (by simp)
    simp only [List.length_cons] at hk
    have hstep : ∀ p ∈ putP l x, 1 ≤ p.c.cnt ∧ p.c.cnt ≤ 1000000 * ((k + 1 : Nat) : Int) := by
      intro p hp
      rcases putP_mem l x p hp with h | h | ⟨y, hy, _, _, rfl⟩
      · have := hl p h; omega
      · rw [h]; omega
      · have hy' := hl y hy
        show 1 ≤ (Cl.two y.c x.c).cnt ∧ (Cl.two y.c x.c).cnt ≤ _
        rw [Cl.two_ab (by omega) (by omega)]
        show 1 ≤ Cl.cnt2 y.c.cnt x.c.cnt ∧ Cl.cnt2 y.c.cnt x.c.cnt ≤ _
        unfold Cl.cnt2; rw [if_neg (by omega)]; omega
    obtain ⟨i1, i2⟩ := wsum_fold w X (putP l x) (k + 1) hstep (fun y hy => hX y (by simp [hy])) (by omega)
    rw [List.foldl_cons]
    refine ⟨?_, fun p hp => ?_⟩
    · rw [i1, wsum_put w l x (fun p hp => by have := hl p hp; omega) hx.1 (by omega), wsum_cons]; omega
    · have := i2 p hp
      simp only [List.length_cons]
      rw [show k + (X.length + 1) = k + 1 + X.length by omega]; exact this
def cntQ (q : Query) : Query := (1, q.2.1, q.2.2.1, q.2.2.2)
def cnt0 (q : Query) : Query := (1, q.2.1, q.2.2.1, [])
theorem asked_cnt (q : Query) : asked (cntQ q) = asked (cnt0 q) := rfl
theorem wsum_parts (q : Query) (w : Int) (l : List Item) : wsum w (partsOf (cntQ q) l) = wsum w (partsOf (cnt0 q) l) := by
  unfold wsum partsOf
  rw [asked_cnt, List.filter_map, List.filter_map, List.map_map, List.map_map]
  rfl
theorem group0 (q : Query) (i : Item) : bb (qgroup (cnt0 q) (keyOf' i)) = ⟨#[]⟩ := by
  have : only (keyOf' i).2 [] = [] := by
    unfold only; rw [List.filter_eq_nil_iff]; intro t _; simp
  show bb (text (only (keyOf' i).2 [])) = _
  rw [this]; rfl
theorem merge0_key (q : Query) (l : List Item) : ∀ p ∈ mergeP (cnt0 q) l, p.key = ⟨#[]⟩ := by
  refine fold_from (P := fun p => p.key = ⟨#[]⟩) (fun y x hy _ _ _ => hy) _ [] (fun p hp => by simp at hp) (fun x hx => ?_)
  obtain ⟨i, _, rfl⟩ := List.mem_map.1 hx
  exact group0 q i
/-- With one text for all, windows rise. -/
theorem one_key {l : List Item} (h : Strict l) (hk : ∀ p ∈ l, p.key = ⟨#[]⟩) : l.Pairwise fun a b => a.win < b.win := by
  refine List.Pairwise.imp_of_mem ?_ h
  intro a b ha hb hab
  unfold pl at hab
  rw [hk a ha, hk b hb, plt_true] at hab
  rcases hab with hab | ⟨_, hab⟩
  · exact hab
  · rw [less_irrefl] at hab; cases hab
theorem wsum_none {w : Int} : ∀ {l : List Item}, (∀ p ∈ l, p.win ≠ w) → wsum w l = 0
  | [], _ => rfl
  | p :: l, h => by rw [wsum_cons, if_neg (h p (by simp)), wsum_none (fun p hp => h p (by simp [hp]))]; rfl
theorem wsum_one {l : List Item} (h : l.Pairwise fun a b => a.win < b.win) {p : Item} (hp : p ∈ l) : wsum p.win l = p.c.cnt := by
  induction l with
  | nil => simp at hp
  | cons a r ih =>
    obtain ⟨h1, h2⟩ := List.pairwise_cons.1 h
    rw [wsum_cons]
    rcases List.mem_cons.1 hp with rfl | hp
    · rw [if_pos rfl, wsum_none (fun q hq => by have := h1 q hq; omega)]; omega
    · rw [if_neg (by have := h1 p hp; omega), ih h2 hp]; simp
theorem wsum_pos {w : Int} : ∀ {l : List Item}, (∀ p ∈ l, 1 ≤ p.c.cnt) → wsum w l ≠ 0 → ∃ p ∈ l, p.win = w
  | [], _, h => absurd rfl h
  | a :: l, hl, h => by
    by_cases ha : a.win = w
    · exact ⟨a, by simp, ha⟩
    · rw [wsum_cons, if_neg ha] at h
      obtain ⟨p, hp, e⟩ := wsum_pos (w := w) (l := l) (fun p hp => hl p (by simp [hp])) (by rw [Int.zero_add] at h; exact h)
      exact ⟨p, by simp [hp], e⟩
theorem wsum_ge {w : Int} : ∀ {l : List Item}, (∀ p ∈ l, 1 ≤ p.c.cnt) → 0 ≤ wsum w l ∧ ∀ p ∈ l, p.win = w → 1 ≤ wsum w l
  | [], _ => ⟨by rw [wsum_nil]; omega, fun p hp => by simp at hp⟩
  | a :: l, hl => by
    obtain ⟨i1, i2⟩ := wsum_ge (w := w) (l := l) (fun p hp => hl p (by simp [hp]))
    have ha := hl a (by simp)
    rw [wsum_cons]
    refine ⟨by split <;> omega, fun p hp e => ?_⟩
    rcases List.mem_cons.1 hp with rfl | hp
    · rw [if_pos e]; omega
    · have := i2 p hp e; split <;> omega
/-- Sum of what stands in one window. -/
def rsum (w : Int) (l : List Row) : Int := ((l.filter fun r => decide (r.win = w)).map fun r => r.n).sum
def rcnt (w : Int) (l : List Row) : Nat := (l.filter fun r => decide (r.win = w)).length
theorem rsum_rows (w : Int) (l : List Item) : rsum w (l.map (rowOf 1)) = wsum w l := by
  unfold rsum wsum
  rw [List.filter_map, List.map_map]
  have : ((fun r : Row => r.n) ∘ rowOf 1) = fun p : Item => p.c.cnt := by
    funext p; show (Cl.val p.c 1).1 = _; rw [Cl.val1]
  rw [this]; rfl
theorem rcnt_all : ∀ (B : List Row) (A : List Row), (B.Pairwise fun a b => a.win < b.win) → (B.map fun b => rcnt b.win A).sum = (A.filter fun a => B.any fun b => decide (b.win = a.win)).length
  | [], A, _ => by
    have : A.filter (fun a => ([] : List Row).any fun b => decide (b.win = a.win)) = [] := by rw [List.filter_eq_nil_iff]; intro a _; simp
    rw [this]; rfl
  | b :: B, A, h => by
    obtain ⟨h1, h2⟩ := List.pairwise_cons.1 h
    rw [List.map_cons, List.sum_cons, rcnt_all B A h2]
    unfold rcnt
    induction A with
    | nil => simp
    | cons a A ih =>
      simp only [List.filter_cons, List.any_cons]
      by_cases hb : a.win = b.win
      · have hn : (B.any fun x => decide (x.win = a.win)) = false := by
          rw [List.any_eq_false]; intro x hx; have := h1 x hx; simp; omega
        rw [hn]
        simp only [hb, decide_true, Bool.true_or, if_true, List.length_cons]
        simp only [List.any_cons] at ih
        have e : (if (false : Bool) = true then a :: A.filter (fun a => B.any fun b => decide (b.win = a.win)) else A.filter (fun a => B.any fun b => decide (b.win = a.win))) = A.filter (fun a => B.any fun b => decide (b.win = a.win)) := by simp
        simp at ih ⊢; omega
      · have hb' : ¬ b.win = a.win := fun e => hb e.symm
        simp only [hb, hb', decide_false, Bool.false_or]
        cases hB : (B.any fun x => decide (x.win = a.win))
        · simp at ih ⊢; exact ih
        · simp at ih ⊢; omega
/-- The counts by groups are, together, the count without groups. -/
theorem counts (q : Query) (l : List Item) (hl : l.length ≤ 100) (hc : ∀ i ∈ l, i.c.cnt ≤ 1000000) (A B : List Row) (hA : A = answer (cntQ q) l) (hB : B = answer (cnt0 q) l) :
    (A ≠ [] → ∀ b ∈ B, rsum b.win A = b.n ∧ b.ov = false ∧ b.grp = ⟨#[]⟩) ∧ (B.map fun b => rcnt b.win A).sum = A.length ∧ (∀ r ∈ A, 1 ≤ r.n ∧ r.n ≤ 1000000000) := by
  by_cases hq : qright (cntQ q) = true
  · have hq0 : qright (cnt0 q) = true := by
      unfold qright cntQ cnt0 at *
      simp only [Bool.and_eq_true, decide_eq_true_eq] at hq ⊢
      exact ⟨hq.1, byE_nil⟩
    have hX : ∀ (p : Query), ∀ x ∈ partsOf p (sortK l), 1 ≤ x.c.cnt ∧ x.c.cnt ≤ 1000000 := by
      intro p x hx
      obtain ⟨i, hi, rfl⟩ := List.mem_map.1 hx
      obtain ⟨h1, h2⟩ := List.mem_filter.1 hi
      have := (asked_true h2).1
      have := hc i ((sortK_perm l).mem_iff.1 h1)
      exact ⟨by show 1 ≤ i.c.cnt; omega, this⟩
    have hlen : ∀ p : Query, (partsOf p (sortK l)).length ≤ 100 := by
      intro p
      unfold partsOf; rw [List.length_map]
      have := List.length_filter_le (asked p) (sortK l)
      rw [(sortK_perm l).length_eq] at this; omega
    have key : ∀ (p : Query) (w : Int), wsum w (mergeP p (sortK l)) = wsum w (partsOf p (sortK l)) ∧ ∀ x ∈ mergeP p (sortK l), 1 ≤ x.c.cnt ∧ x.c.cnt ≤ 1000000000 := by
      intro p w
      have hh := hlen p
      obtain ⟨k1, k2⟩ := wsum_fold w (partsOf p (sortK l)) [] 0 (fun x hx => by simp at hx) (hX p) (by omega)
      refine ⟨by unfold mergeP; rw [k1, wsum_nil]; omega, fun x hx => ?_⟩
      have := k2 x hx; omega
    have eA : A = (mergeP (cntQ q) (sortK l)).map (rowOf 1) := by rw [hA]; unfold answer; rw [if_pos hq]; rfl
    have eB : B = (mergeP (cnt0 q) (sortK l)).map (rowOf 1) := by rw [hB]; unfold answer; rw [if_pos hq0]; rfl
    have same : ∀ w, wsum w (mergeP (cntQ q) (sortK l)) = wsum w (mergeP (cnt0 q) (sortK l)) := fun w => by
      rw [(key _ w).1, (key _ w).1, wsum_parts]
    have hk0 := merge0_key q (sortK l)
    have hw0 := one_key (mergeP_strict (cnt0 q) (sortK l)) hk0
    refine ⟨fun _ b hb => ?_, ?_, fun r hr => ?_⟩
    · rw [eB] at hb
      obtain ⟨p, hp, rfl⟩ := List.mem_map.1 hb
      refine ⟨?_, ?_, hk0 p hp⟩
      · rw [eA, rsum_rows]
        show wsum p.win _ = (Cl.val p.c 1).1
        rw [same, wsum_one hw0 hp, Cl.val1]
      · show (Cl.val p.c 1).2 = false
        rw [Cl.val1]
    · rw [rcnt_all B A (by rw [eB]; exact List.Pairwise.map _ (fun a b h => h) hw0)]
      have : A.filter (fun a => B.any fun b => decide (b.win = a.win)) = A := by
        rw [List.filter_eq_self]
        intro a ha
        rw [eA] at ha
        obtain ⟨p, hp, rfl⟩ := List.mem_map.1 ha
        have h1 := (wsum_ge (w := p.win) (fun x hx => ((key (cntQ q) 0).2 x hx).1)).2 p hp rfl
        rw [same] at h1
        obtain ⟨x, hx, e⟩ := wsum_pos (fun x hx => ((key (cnt0 q) 0).2 x hx).1) (show wsum p.win (mergeP (cnt0 q) (sortK l)) ≠ 0 by omega)
        rw [List.any_eq_true]
        refine ⟨rowOf 1 x, by rw [eB]; exact List.mem_map.2 ⟨x, hx, rfl⟩, ?_⟩
        show decide (x.win = p.win) = true
        simp [e]
      rw [this]
    · rw [eA] at hr
      obtain ⟨p, hp, rfl⟩ := List.mem_map.1 hr
      show 1 ≤ (Cl.val p.c 1).1 ∧ _
      have := (key (cntQ q) 0).2 p hp
      show 1 ≤ (Cl.val p.c 1).1 ∧ (Cl.val p.c 1).1 ≤ _
      rw [Cl.val1]; exact this
  · have eA : A = [] := by rw [hA]; unfold answer; rw [if_neg hq]
    refine ⟨fun h => absurd eA h, ?_, fun r hr => by rw [eA] at hr; simp at hr⟩
    rw [eA]
    have : ∀ B : List Row, (B.map fun b => rcnt b.win []).sum = 0 := by
      intro B; induction B with
      | nil => rfl
      | cons b B ih => rw [List.map_cons, List.sum_cons, ih]; rfl
    rw [this]; rfl

end Go.Proofs.YtehgpibngalhfaaGreatDoor.Rw
