/- Plain mathematics of shards: in order, a write, what is read, pruned, how many versions; no program, no conditions. -/
import Derived.Test.YthiofbohllmfbaaM9
import Derived.Test.YthiofbohllmfbaaMB
namespace Go.Proofs.Ythiofbohllmfbaa.Sh
open Go Cl Ch

/-- An entry: its window, its key, its versions; an item; a window that is dropped; a write. -/
structure Ent where
  win : Int
  key : ByteArray
  vs : List Ver
def zent : Ent := ⟨0, ⟨#[]⟩, []⟩
instance : Inhabited Ent := ⟨zent⟩
structure Itm where
  win : Int
  key : ByteArray
  c : Cell
def zitm : Itm := ⟨0, ⟨#[]⟩, zero⟩
instance : Inhabited Itm := ⟨zitm⟩
structure Drp where
  win : Int
  st : Int
def zdrp : Drp := ⟨0, 0⟩
instance : Inhabited Drp := ⟨zdrp⟩
structure Wri where
  st : Int
  win : Int
  key : ByteArray
  val : Int

/-! ### in order -/
def eIn (e : Ent) : Bool := decide (0 < e.vs.length) && vright e.vs
def elt (a b : Ent) : Bool := plt a.win a.key b.win b.key
def srise : List Ent → Bool
  | a :: b :: r => elt a b && srise (b :: r)
  | _ => true
theorem srise_nil : srise [] = true := by rw [srise]; simp
theorem srise_one (a : Ent) : srise [a] = true := by rw [srise]; simp
theorem srise_cons (a b : Ent) (r : List Ent) : srise (a :: b :: r) = (elt a b && srise (b :: r)) := by rw [srise]
theorem srise_iff : ∀ l : List Ent, srise l = true ↔ ∀ i (h : i + 1 < l.length), elt (l[i]'(by omega)) l[i + 1] = true
  | [] => by simp [srise_nil]
  | [a] => by simp [srise_one]
  | a :: b :: r => by
    rw [srise_cons, Bool.and_eq_true, srise_iff (b :: r)]
    constructor
    · rintro ⟨h1, h2⟩ i hi
      cases i with
      | zero => exact h1
      | succ i => exact h2 i (by simpa using hi)
    · intro h
      exact ⟨h 0 (by simp), fun i hi => h (i + 1) (by simpa using hi)⟩
theorem srise_pairwise : ∀ l : List Ent, srise l = true ↔ l.Pairwise fun a b => elt a b = true
  | [] => by simp [srise_nil]
  | [a] => by simp [srise_one]
  | a :: b :: r => by
    rw [srise_cons, Bool.and_eq_true, srise_pairwise (b :: r)]
    constructor
    · rintro ⟨h1, h2⟩
      refine List.pairwise_cons.2 ⟨fun c hc => ?_, h2⟩
      rcases List.mem_cons.1 hc with rfl | hc
      · exact h1
      · exact plt_trans h1 ((List.pairwise_cons.1 h2).1 c hc)
    · intro h
      obtain ⟨h1, h2⟩ := List.pairwise_cons.1 h
      exact ⟨h1 b (by simp), h2⟩
def sright (l : List Ent) : Bool := l.all eIn && srise l
/-- What is wrong at one place. -/
def badE (l : List Ent) (i : Nat) (h : i < l.length) : Prop := eIn l[i] = false ∨ (0 < i ∧ ∃ h' : i - 1 < l.length, elt (l[i - 1]) l[i] = false)
theorem sright_not {l : List Ent} {k : Nat} (hk : k < l.length) (h : badE l k hk) : sright l = false := by
  unfold sright
  rcases h with h | ⟨h0, h', h⟩
  · have : l.all eIn = false := by
      rw [List.all_eq_false]; exact ⟨l[k], List.getElem_mem hk, by simp [h]⟩
    rw [this]; rfl
  · have : srise l = false := by
      cases hc : srise l
      · rfl
      · have e : k - 1 + 1 = k := by omega
        have h2 := (srise_iff l).1 hc (k - 1) (by omega)
        simp only [e] at h2
        rw [h] at h2; cases h2
    rw [this, Bool.and_false]
theorem sright_all {l : List Ent} (h : ∀ k (hk : k < l.length), eIn l[k] = true ∧ (0 < k → ∃ h' : k - 1 < l.length, elt (l[k - 1]) l[k] = true)) : sright l = true := by
  unfold sright
  rw [Bool.and_eq_true]
  refine ⟨?_, (srise_iff l).2 fun i hi => ?_⟩
  · rw [List.all_eq_true]; intro x hx
    obtain ⟨i, hi, rfl⟩ := List.mem_iff_getElem.1 hx
    exact (h i hi).1
  · obtain ⟨_, h2⟩ := (h (i + 1) hi).2 (by omega)
    simpa using h2
theorem fineE_next {l : List Ent} {k : Nat} (h : ∀ j (hj : j < l.length), j < k → eIn l[j] = true ∧ (0 < j → ∃ h' : j - 1 < l.length, elt (l[j - 1]) l[j] = true)) (hk : k < l.length) (h1 : eIn l[k] = true) (h2 : 0 < k → ∃ h' : k - 1 < l.length, elt (l[k - 1]) l[k] = true) :
    ∀ j (hj : j < l.length), j < k + 1 → eIn l[j] = true ∧ (0 < j → ∃ h' : j - 1 < l.length, elt (l[j - 1]) l[j] = true) := by
  intro j hj hjk
  by_cases q : j < k
  · exact h j hj q
  · have : j = k := by omega
    subst this; exact ⟨h1, h2⟩
theorem sright_true {l : List Ent} : sright l = true ↔ (∀ e ∈ l, eIn e = true) ∧ l.Pairwise fun a b => elt a b = true := by
  unfold sright; rw [Bool.and_eq_true, List.all_eq_true, srise_pairwise]
theorem eIn_true {e : Ent} : eIn e = true ↔ e.vs ≠ [] ∧ vright e.vs = true := by
  unfold eIn; rw [Bool.and_eq_true, decide_eq_true_eq, List.length_pos_iff]

/-! ### the same -/
def eqE (a b : Ent) : Bool := decide (a.win = b.win) && eqB a.key b.key && sameV a.vs b.vs
theorem eqE_true (a b : Ent) : eqE a b = true ↔ a = b := by
  unfold eqE
  simp only [Bool.and_eq_true, decide_eq_true_eq, eqB_true, sameV_true]
  constructor
  · rintro ⟨⟨h1, h2⟩, h3⟩
    obtain ⟨a1, a2, a3⟩ := a
    obtain ⟨b1, b2, b3⟩ := b
    simp only at h1 h2 h3
    subst h1 h2 h3; rfl
  · rintro rfl; exact ⟨⟨rfl, rfl⟩, rfl⟩
def sameS (a b : List Ent) : Bool := decide (a.length = b.length) && (List.range a.length).all fun i => eqE (a.getD i zent) (b.getD i zent)
theorem sameS_true (a b : List Ent) : sameS a b = true ↔ a = b := by
  unfold sameS
  simp only [Bool.and_eq_true, decide_eq_true_eq, List.all_eq_true, List.mem_range, eqE_true]
  constructor
  · rintro ⟨h1, h2⟩
    apply List.ext_getElem h1
    intro i hi hj
    have := h2 i hi
    simpa [List.getD, hi, hj] using this
  · rintro rfl; exact ⟨rfl, fun _ _ => rfl⟩
theorem same_lenS {l m : List Ent} (h : ¬ l.length = m.length) : sameS l m = false := by
  unfold sameS; rw [decide_eq_false h]; rfl
theorem same_notS {l m : List Ent} {k : Nat} (h1 : k < l.length) (h2 : k < m.length) (h : eqE l[k] m[k] = false) : sameS l m = false := by
  cases hc : sameS l m
  · rfl
  · have e := (sameS_true l m).1 hc
    subst e
    rw [(eqE_true _ _).2 rfl] at h; cases h
theorem same_allS {l m : List Ent} (hl : l.length = m.length) (h : ∀ j (h1 : j < l.length) (h2 : j < m.length), eqE l[j] m[j] = true) : sameS l m = true := by
  rw [sameS_true]
  exact List.ext_getElem hl (fun i h1 h2 => (eqE_true _ _).1 (h i h1 h2))
def eqI (a b : Itm) : Bool := decide (a.win = b.win) && eqB a.key b.key && decide (a.c.cnt = b.c.cnt) && decide (a.c.sn = b.c.sn) && (a.c.so == b.c.so) && decide (a.c.mn = b.c.mn) && decide (a.c.mx = b.c.mx)
theorem itm_ext {a b : Itm} (h1 : a.win = b.win) (h2 : a.key = b.key) (h3 : a.c.cnt = b.c.cnt) (h4 : a.c.sn = b.c.sn) (h5 : a.c.so = b.c.so) (h6 : a.c.mn = b.c.mn) (h7 : a.c.mx = b.c.mx) : a = b := by
  obtain ⟨a1, a2, a3, a4, a5, a6, a7⟩ := a
  obtain ⟨b1, b2, b3, b4, b5, b6, b7⟩ := b
  simp only at h1 h2 h3 h4 h5 h6 h7
  subst h1 h2 h3 h4 h5 h6 h7; rfl
theorem eqI_true (a b : Itm) : eqI a b = true ↔ a = b := by
  unfold eqI
  simp only [Bool.and_eq_true, decide_eq_true_eq, eqB_true, beq_iff_eq]
  constructor
  · rintro ⟨⟨⟨⟨⟨⟨h1, h2⟩, h3⟩, h4⟩, h5⟩, h6⟩, h7⟩; exact itm_ext h1 h2 h3 h4 h5 h6 h7
  · rintro rfl; exact ⟨⟨⟨⟨⟨⟨rfl, rfl⟩, rfl⟩, rfl⟩, rfl⟩, rfl⟩, rfl⟩
def sameI (a b : List Itm) : Bool := decide (a.length = b.length) && (List.range a.length).all fun i => eqI (a.getD i zitm) (b.getD i zitm)
theorem sameI_true (a b : List Itm) : sameI a b = true ↔ a = b := by
  unfold sameI
  simp only [Bool.and_eq_true, decide_eq_true_eq, List.all_eq_true, List.mem_range, eqI_true]
  constructor
  · rintro ⟨h1, h2⟩
    apply List.ext_getElem h1
    intro i hi hj
    have := h2 i hi
    simpa [List.getD, hi, hj] using this
  · rintro rfl; exact ⟨rfl, fun _ _ => rfl⟩
theorem same_lenI {l m : List Itm} (h : ¬ l.length = m.length) : sameI l m = false := by
  unfold sameI; rw [decide_eq_false h]; rfl
theorem same_notI {l m : List Itm} {k : Nat} (h1 : k < l.length) (h2 : k < m.length) (h : eqI l[k] m[k] = false) : sameI l m = false := by
  cases hc : sameI l m
  · rfl
  · have e := (sameI_true l m).1 hc
    subst e
    rw [(eqI_true _ _).2 rfl] at h; cases h
theorem same_allI {l m : List Itm} (hl : l.length = m.length) (h : ∀ j (h1 : j < l.length) (h2 : j < m.length), eqI l[j] m[j] = true) : sameI l m = true := by
  rw [sameI_true]
  exact List.ext_getElem hl (fun i h1 h2 => (eqI_true _ _).1 (h i h1 h2))
theorem eq_partsI (x y : Itm) (p1 p2 p3 p4 p5 p6 p7 : Bool) (h1 : (x.win == y.win) = p1) (h2 : (x.key.toList == y.key.toList) = p2) (h3 : (x.c.cnt == y.c.cnt) = p3) (h4 : (x.c.sn == y.c.sn) = p4) (h5 : (x.c.so == y.c.so) = p5) (h6 : (x.c.mn == y.c.mn) = p6) (h7 : (x.c.mx == y.c.mx) = p7) : eqI x y = (p1 && p2 && p3 && p4 && p5 && p6 && p7) := by
  unfold eqI
  rw [← h1, ← h2, ← h3, ← h4, ← h5, ← h6, ← h7, beq_ba]
  rfl

/-! ### dropped, read, pruned, how many -/
def dhit (w s : Int) (d : Drp) : Bool := decide (d.win = w) && decide (d.st ≤ s)
def dropped (ds : List Drp) (w s : Int) : Bool := ds.any (dhit w s)
theorem dropped_hit {ds : List Drp} {w s : Int} {k : Nat} (hk : k < ds.length) (h : dhit w s ds[k] = true) : dropped ds w s = true := by
  unfold dropped; rw [List.any_eq_true]; exact ⟨ds[k], List.getElem_mem hk, h⟩
theorem dropped_not {ds : List Drp} {w s : Int} (h : ∀ j (hj : j < ds.length), dhit w s ds[j] = false) : dropped ds w s = false := by
  unfold dropped; rw [List.any_eq_false]; intro d hd
  obtain ⟨j, hj, rfl⟩ := List.mem_iff_getElem.1 hd
  simp [h j hj]
theorem dropped_nil (w s : Int) : dropped [] w s = false := rfl
theorem dropped_mono {ds : List Drp} {w s t : Int} (h : s ≤ t) (hd : dropped ds w s = true) : dropped ds w t = true := by
  unfold dropped at *
  rw [List.any_eq_true] at *
  obtain ⟨d, h1, h2⟩ := hd
  refine ⟨d, h1, ?_⟩
  unfold dhit at *
  simp only [Bool.and_eq_true, decide_eq_true_eq] at *
  exact ⟨h2.1, by omega⟩
def takenE (s : Int) (ds : List Drp) (e : Ent) : Bool := decide (1 ≤ (atS e.vs s).cnt) && !dropped ds e.win s
def itemOf (s : Int) (e : Ent) : Itm := ⟨e.win, e.key, atS e.vs s⟩
def readS (l : List Ent) (s : Int) (ds : List Drp) : List Itm := (l.filter (takenE s ds)).map (itemOf s)
theorem readS_nil (s : Int) (ds : List Drp) : readS [] s ds = [] := rfl
theorem readS_append (l m : List Ent) (s : Int) (ds : List Drp) : readS (l ++ m) s ds = readS l s ds ++ readS m s ds := by simp [readS]
theorem readS_one (e : Ent) (s : Int) (ds : List Drp) : readS [e] s ds = if takenE s ds e = true then [itemOf s e] else [] := by
  unfold readS
  cases h : takenE s ds e <;> simp [List.filter, h]
theorem take_next {α : Type} {l : List α} {k : Nat} (hk : k < l.length) : l.take (k + 1) = l.take k ++ [l[k]] := by simp
theorem readS_next {l : List Ent} {k : Nat} (hk : k < l.length) (s : Int) (ds : List Drp) : readS (l.take (k + 1)) s ds = readS (l.take k) s ds ++ if takenE s ds l[k] = true then [itemOf s l[k]] else [] := by
  rw [take_next hk, readS_append, readS_one]
theorem readS_len (l : List Ent) (s : Int) (ds : List Drp) : (readS l s ds).length ≤ l.length := by
  unfold readS; rw [List.length_map]; exact List.length_filter_le _ _
def prunedE (f : Int) (e : Ent) : Ent := ⟨e.win, e.key, prune e.vs f⟩
def keptE (f : Int) (ds : List Drp) (e : Ent) : Bool := !dropped ds e.win f
def pruneS (l : List Ent) (f : Int) (ds : List Drp) : List Ent := (l.filter (keptE f ds)).map (prunedE f)
theorem pruneS_nil (f : Int) (ds : List Drp) : pruneS [] f ds = [] := rfl
theorem pruneS_append (l m : List Ent) (f : Int) (ds : List Drp) : pruneS (l ++ m) f ds = pruneS l f ds ++ pruneS m f ds := by simp [pruneS]
theorem pruneS_one (e : Ent) (f : Int) (ds : List Drp) : pruneS [e] f ds = if dropped ds e.win f = true then [] else [prunedE f e] := by
  unfold pruneS keptE
  cases h : dropped ds e.win f <;> simp [List.filter, h]
theorem pruneS_next {l : List Ent} {k : Nat} (hk : k < l.length) (f : Int) (ds : List Drp) : pruneS (l.take (k + 1)) f ds = pruneS (l.take k) f ds ++ if dropped ds (l[k]).win f = true then [] else [prunedE f l[k]] := by
  rw [take_next hk, pruneS_append, pruneS_one]
theorem pruneS_len (l : List Ent) (f : Int) (ds : List Drp) : (pruneS l f ds).length ≤ l.length := by
  unfold pruneS; rw [List.length_map]; exact List.length_filter_le _ _
def sizeS : List Ent → Nat
  | [] => 0
  | e :: r => e.vs.length + sizeS r
theorem sizeS_append (l m : List Ent) : sizeS (l ++ m) = sizeS l + sizeS m := by
  induction l with
  | nil => rw [List.nil_append, sizeS, Nat.zero_add]
  | cons e r ih => rw [List.cons_append, sizeS, sizeS, ih, Nat.add_assoc]
theorem sizeS_one (e : Ent) : sizeS [e] = e.vs.length := by rw [sizeS, sizeS, Nat.add_zero]
theorem sizeS_next {l : List Ent} {k : Nat} (hk : k < l.length) : sizeS (l.take (k + 1)) = sizeS (l.take k) + (l[k]).vs.length := by
  rw [take_next hk, sizeS_append, sizeS_one]
def greatE (e : Ent) : Bool := decide (100 < e.vs.length) || decide (300 < e.key.size)
def greatS (l : List Ent) : Bool := decide (100 < l.length) || l.any greatE
theorem greatS_long {l : List Ent} (h : 100 < l.length) : greatS l = true := by unfold greatS; rw [decide_eq_true h]; rfl
theorem greatS_hit {l : List Ent} {k : Nat} (hk : k < l.length) (h : greatE l[k] = true) : greatS l = true := by
  unfold greatS; rw [show l.any greatE = true from List.any_eq_true.2 ⟨l[k], List.getElem_mem hk, h⟩, Bool.or_true]
theorem greatS_none {l : List Ent} (h0 : ¬ 100 < l.length) (h : ∀ j (hj : j < l.length), greatE l[j] = false) : greatS l = false := by
  unfold greatS
  rw [decide_eq_false h0, Bool.false_or, List.any_eq_false]
  intro e he
  obtain ⟨j, hj, rfl⟩ := List.mem_iff_getElem.1 he
  simp [h j hj]
theorem greatS_not {l : List Ent} (h : greatS l = false) : l.length ≤ 100 ∧ ∀ e ∈ l, e.vs.length ≤ 100 ∧ e.key.size ≤ 300 := by
  unfold greatS at h
  rw [Bool.or_eq_false_iff, decide_eq_false_iff_not, List.any_eq_false] at h
  refine ⟨by omega, fun e he => ?_⟩
  have := h.2 e he
  unfold greatE at this
  simp only [Bool.or_eq_true, decide_eq_true_eq, not_or] at this
  omega
theorem sizeS_le {l : List Ent} {n : Nat} (h : ∀ e ∈ l, e.vs.length ≤ n) : sizeS l ≤ l.length * n := by
  induction l with
  | nil => simp [sizeS]
  | cons e r ih =>
    rw [sizeS, List.length_cons, Nat.add_mul, Nat.one_mul]
    have h1 := h e (by simp)
    have h2 := ih (fun x hx => h x (by simp [hx]))
    omega

/-! ### a write -/
def aheadN (w : Int) (k : ByteArray) : List Ent → Nat
  | [] => 0
  | e :: r => if plt e.win e.key w k = true then aheadN w k r + 1 else 0
theorem aheadN_le (w : Int) (k : ByteArray) : ∀ l : List Ent, aheadN w k l ≤ l.length
  | [] => by rw [aheadN]; exact Nat.le_refl _
  | e :: r => by
    rw [aheadN, List.length_cons]
    have := aheadN_le w k r
    split <;> omega
theorem aheadN_at (w : Int) (key : ByteArray) : ∀ (l : List Ent) (k : Nat), k ≤ l.length → (∀ j (hj : j < l.length), j < k → plt (l[j]).win (l[j]).key w key = true) → (∀ hk : k < l.length, plt (l[k]).win (l[k]).key w key = false) → aheadN w key l = k
  | [], k, hk, _, _ => by rw [aheadN]; simp at hk; omega
  | e :: r, 0, _, _, h2 => by
    have := h2 (by simp)
    rw [aheadN, if_neg (by simpa using this)]
  | e :: r, k + 1, hk, h1, h2 => by
    rw [aheadN, if_pos (show plt e.win e.key w key = true from h1 0 (by simp) (by omega))]
    rw [aheadN_at w key r k (by simpa using hk) (fun j hj hjk => h1 (j + 1) (by simpa using hj) (by omega)) (fun hk2 => h2 (by simpa using hk2))]
def hitE (w : Int) (k : ByteArray) (e : Ent) : Bool := decide (e.win = w) && eqB e.key k
theorem hitE_true {w : Int} {k : ByteArray} {e : Ent} : hitE w k e = true ↔ e.win = w ∧ e.key = k := by
  unfold hitE; rw [Bool.and_eq_true, decide_eq_true_eq, eqB_true]
/-- The versions that are there, and how many entries they take. -/
def oldV (w : Int) (k : ByteArray) : List Ent → List Ver
  | [] => []
  | e :: _ => if hitE w k e = true then e.vs else []
def oldN (w : Int) (k : ByteArray) : List Ent → Nat
  | [] => 0
  | e :: _ => if hitE w k e = true then 1 else 0
def applyS (l : List Ent) (w : Wri) : List Ent × Int :=
  if sright l = true then
    if (foldV (oldV w.win w.key (l.drop (aheadN w.win w.key l))) w.st w.val).2 = 0 then
      (l.take (aheadN w.win w.key l) ++ [⟨w.win, w.key, (foldV (oldV w.win w.key (l.drop (aheadN w.win w.key l))) w.st w.val).1⟩] ++ l.drop (aheadN w.win w.key l + oldN w.win w.key (l.drop (aheadN w.win w.key l))), 0)
    else ([], (foldV (oldV w.win w.key (l.drop (aheadN w.win w.key l))) w.st w.val).2)
  else ([], 9)
end Go.Proofs.Ythiofbohllmfbaa.Sh
