/- Plain mathematics of rows: their order, their text and what is parsed from it, and answers over items; no program, no conditions. -/
import Derived.Test.YtehgpibngalhfaaGreatDoorM5
import Derived.Test.YtehgpibngalhfaaGreatDoorS1
import Derived.Test.YtehgpibngalhfaaGreatDoorMS
import Derived.Test.YtehgpibngalhfaaGreatDoorMC
namespace Go.Proofs.YtehgpibngalhfaaGreatDoor.Rw
open Go Tg Pk Ky Qy

/-- A row: its window, its group, its value and whether that ran over. -/
structure Row where
  win : Int
  grp : ByteArray
  n : Int
  ov : Bool
instance : Inhabited Row := ⟨⟨0, ⟨#[]⟩, 0, false⟩⟩
def zrow : Row := ⟨0, ⟨#[]⟩, 0, false⟩
def ok64 (x : Int) : Prop := -9223372036854775808 ≤ x ∧ x ≤ 9223372036854775807
def okR (r : Row) : Prop := ok64 r.win ∧ ok64 r.n
theorem row_ext {a b : Row} (h1 : a.win = b.win) (h2 : a.grp = b.grp) (h3 : a.n = b.n) (h4 : a.ov = b.ov) : a = b := by
  cases a; cases b; simp only at h1 h2 h3 h4; subst h1 h2 h3 h4; rfl
def gl (r : Row) : List UInt8 := r.grp.data.toList
def eqR (a b : Row) : Bool := decide (a.win = b.win) && eqB a.grp b.grp && decide (a.n = b.n) && (a.ov == b.ov)
theorem eqR_true (a b : Row) : eqR a b = true ↔ a = b := by
  unfold eqR
  simp only [Bool.and_eq_true, decide_eq_true_eq, eqB_true, beq_iff_eq]
  constructor
  · rintro ⟨⟨⟨h1, h2⟩, h3⟩, h4⟩; exact row_ext h1 h2 h3 h4
  · rintro rfl; exact ⟨⟨⟨rfl, rfl⟩, rfl⟩, rfl⟩
/-- The same, one by one. -/
def sameR (a b : List Row) : Bool := decide (a.length = b.length) && (List.range a.length).all fun i => eqR (a.getD i zrow) (b.getD i zrow)
theorem sameR_true (a b : List Row) : sameR a b = true ↔ a = b := by
  unfold sameR
  simp only [Bool.and_eq_true, decide_eq_true_eq, List.all_eq_true, List.mem_range, eqR_true]
  constructor
  · rintro ⟨h1, h2⟩
    apply List.ext_getElem h1
    intro i hi hj
    have := h2 i hi
    simpa [List.getD, hi, hj] using this
  · rintro rfl; exact ⟨rfl, fun _ _ => rfl⟩

/-! ### order -/
/-- A window and a group ahead of others. -/
def plt (w1 : Int) (g1 : ByteArray) (w2 : Int) (g2 : ByteArray) : Bool := decide (w1 < w2) || (decide (w1 = w2) && less g1.data.toList g2.data.toList)
theorem plt_true (w1 : Int) (g1 : ByteArray) (w2 : Int) (g2 : ByteArray) : plt w1 g1 w2 g2 = true ↔ w1 < w2 ∨ (w1 = w2 ∧ less g1.data.toList g2.data.toList = true) := by
  unfold plt; simp
theorem plt_irrefl (w : Int) (g : ByteArray) : plt w g w g = false := by
  unfold plt; simp [less_irrefl]
theorem plt_trans {w1 w2 w3 : Int} {g1 g2 g3 : ByteArray} (h1 : plt w1 g1 w2 g2 = true) (h2 : plt w2 g2 w3 g3 = true) : plt w1 g1 w3 g3 = true := by
  rw [plt_true] at *
  rcases h1 with h1 | ⟨h1, h1'⟩ <;> rcases h2 with h2 | ⟨h2, h2'⟩
  · left; omega
  · left; omega
  · left; omega
  · right; exact ⟨by omega, less_trans _ _ _ h1' h2'⟩
theorem plt_asymm {w1 w2 : Int} {g1 g2 : ByteArray} (h : plt w1 g1 w2 g2 = true) : plt w2 g2 w1 g1 = false := by
  cases hc : plt w2 g2 w1 g1
  · rfl
  · have := plt_trans h hc; rw [plt_irrefl] at this; cases this
theorem plt_total (w1 w2 : Int) (g1 g2 : ByteArray) : plt w1 g1 w2 g2 = true ∨ (w1 = w2 ∧ g1 = g2) ∨ plt w2 g2 w1 g1 = true := by
  by_cases h : w1 < w2
  · left; rw [plt_true]; exact Or.inl h
  · by_cases h' : w2 < w1
    · right; right; rw [plt_true]; exact Or.inl h'
    · have e : w1 = w2 := by omega
      rcases less_or g1.data.toList g2.data.toList with h1 | h1 | h1
      · left; rw [plt_true]; exact Or.inr ⟨e, h1⟩
      · right; left; exact ⟨e, bb_inj h1⟩
      · right; right; rw [plt_true]; exact Or.inr ⟨e.symm, h1⟩
def rlt (a b : Row) : Bool := plt a.win a.grp b.win b.grp
/-- How two rows compare. -/
def rcf (a b : Row) : Int := if a.win < b.win then -1 else if b.win < a.win then 1 else Lib.compareBytes (gl a) (gl b)
theorem rcf_lt (a b : Row) : (decide (rcf a b < 0)) = rlt a b := by
  rw [Bool.eq_iff_iff, decide_eq_true_eq]
  unfold rcf rlt
  rw [plt_true]
  by_cases h : a.win < b.win
  · rw [if_pos h]; simp [h]
  · rw [if_neg h]
    by_cases h' : b.win < a.win
    · rw [if_pos h']
      constructor
      · intro h2; omega
      · rintro (h2 | ⟨h2, _⟩) <;> omega
    · rw [if_neg h', compare_less]
      constructor
      · intro h2; exact Or.inr ⟨by omega, h2⟩
      · rintro (h2 | ⟨_, h2⟩)
        · omega
        · exact h2
theorem rlt_swo : Go.Sort.SWO rlt := by
  constructor
  · intro x; exact plt_irrefl _ _
  · intro x y z h1 h2; exact plt_trans h1 h2
  · intro x y z h1 h2
    cases hc : rlt x z
    · rfl
    · exfalso
      unfold rlt at *
      rcases plt_total x.win y.win x.grp y.grp with h | ⟨h, h'⟩ | h
      · rw [h] at h1; cases h1
      · rw [← h, ← h', hc] at h2; cases h2
      · have := plt_trans h hc; rw [this] at h2; cases h2
theorem rcf_swo : Go.Sort.SWO (fun a b : Row => decide (rcf a b < 0)) := by
  have : (fun a b : Row => decide (rcf a b < 0)) = rlt := by funext a b; exact rcf_lt a b
  rw [this]; exact rlt_swo

def rise : List Row → Bool
  | a :: b :: r => rlt a b && rise (b :: r)
  | _ => true
theorem rise_cons (a b : Row) (r : List Row) : rise (a :: b :: r) = (rlt a b && rise (b :: r)) := by rw [rise]
theorem rise_one (a : Row) : rise [a] = true := by rw [rise]; simp
theorem rise_nil : rise [] = true := by rw [rise]; simp
theorem rise_iff : ∀ l : List Row, rise l = true ↔ ∀ i (h : i + 1 < l.length), rlt (l[i]'(by omega)) l[i + 1] = true
  | [] => by simp [rise_nil]
  | [a] => by simp [rise_one]
  | a :: b :: r => by
    rw [rise_cons, Bool.and_eq_true, rise_iff (b :: r)]
    constructor
    · rintro ⟨h1, h2⟩ i hi
      cases i with
      | zero => exact h1
      | succ i => exact h2 i (by simpa using hi)
    · intro h
      exact ⟨h 0 (by simp), fun i hi => h (i + 1) (by simpa using hi)⟩
theorem rise_pairwise : ∀ l : List Row, rise l = true ↔ l.Pairwise fun a b => rlt a b = true
  | [] => by simp [rise_nil]
  | [a] => by simp [rise_one]
  | a :: b :: r => by
    rw [rise_cons, Bool.and_eq_true, rise_pairwise (b :: r)]
    constructor
    · rintro ⟨h1, h2⟩
      refine List.pairwise_cons.2 ⟨fun c hc => ?_, h2⟩
      rcases List.mem_cons.1 hc with rfl | hc
      · exact h1
      · exact plt_trans h1 ((List.pairwise_cons.1 h2).1 c hc)
    · intro h
      obtain ⟨h1, h2⟩ := List.pairwise_cons.1 h
      exact ⟨h1 b (by simp), h2⟩
theorem rise_not {l : List Row} {k : Nat} (hk : k + 1 < l.length) (h : rlt (l[k]'(by omega)) l[k + 1] = false) : rise l = false := by
  cases hc : rise l
  · rfl
  · have := (rise_iff l).1 hc k hk; rw [h] at this; cases this

/-! ### groups -/
/-- What is wrong with a group's text. -/
def grpE (s : ByteArray) : Int := if (parse s.data.toList).2 = 0 then (if text (parse s.data.toList).1 = s.data.toList then 0 else 2) else (parse s.data.toList).2
theorem grpE_err {s : ByteArray} (h : ¬ (parse s.data.toList).2 = 0) : grpE s = (parse s.data.toList).2 := by unfold grpE; rw [if_neg h]
theorem grpE_ok {s : ByteArray} (h : (parse s.data.toList).2 = 0) (h2 : text (parse s.data.toList).1 = s.data.toList) : grpE s = 0 := by unfold grpE; rw [if_pos h, if_pos h2]
theorem grpE_form {s : ByteArray} (h : (parse s.data.toList).2 = 0) (h2 : ¬ text (parse s.data.toList).1 = s.data.toList) : grpE s = 2 := by unfold grpE; rw [if_pos h, if_neg h2]
theorem grpE_zero {s : ByteArray} (h : grpE s = 0) : (parse s.data.toList).2 = 0 ∧ text (parse s.data.toList).1 = s.data.toList := by
  by_cases h1 : (parse s.data.toList).2 = 0
  · by_cases h2 : text (parse s.data.toList).1 = s.data.toList
    · exact ⟨h1, h2⟩
    · rw [grpE_form h1 h2] at h; cases h
  · rw [grpE_err h1] at h; exact absurd h h1
theorem grpE_text {l : List Tag} (h : right l = true) : grpE (bb (text l)) = 0 := by
  have hp := parse_text h
  apply grpE_ok
  · rw [bb_list, hp]
  · rw [bb_list, hp]
def rright (l : List Row) : Bool := l.all (fun r => decide (grpE r.grp = 0)) && rise l
theorem rright_not {l : List Row} {k : Nat} (hk : k < l.length) (h : ¬ grpE l[k].grp = 0) : rright l = false := by
  unfold rright
  have : l.all (fun r => decide (grpE r.grp = 0)) = false := by
    rw [List.all_eq_false]; exact ⟨l[k], List.getElem_mem hk, by simp [h]⟩
  rw [this]; rfl
theorem rright_rise {l : List Row} (h : ∀ k (hk : k < l.length), grpE l[k].grp = 0) : rright l = rise l := by
  unfold rright
  have : l.all (fun r => decide (grpE r.grp = 0)) = true := by
    rw [List.all_eq_true]; intro x hx
    obtain ⟨i, hi, rfl⟩ := List.mem_iff_getElem.1 hx
    simp [h i hi]
  rw [this]; rfl
theorem rright_true {l : List Row} : rright l = true ↔ (∀ r ∈ l, grpE r.grp = 0) ∧ rise l = true := by
  unfold rright; simp

/-! ### their text -/
def rtxt (r : Row) : List UInt8 := Lib.itoa r.win ++ 124 :: (gl r ++ 124 :: Sat.textL r.n r.ov)
def rtext (l : List Row) : List UInt8 := if l = [] then [45] else Lib.join (l.map rtxt) [59]
/-- The row of a part. -/
def rread (p : List UInt8) : Row × Int :=
  match Word.parts 124 p with
  | [a, b, c] =>
    if (Sat.read a).2 = 0 then (if grpE (bb b) = 0 then (if (Sat.parseL c).2.2 = 0 then (⟨(Sat.read a).1, bb b, (Sat.parseL c).1, (Sat.parseL c).2.1⟩, 0) else (zrow, (Sat.parseL c).2.2)) else (zrow, grpE (bb b))) else (zrow, (Sat.read a).2)
  | _ => (zrow, 2)
theorem rread_three {p a b c : List UInt8} (h : Word.parts 124 p = [a, b, c]) : rread p = if (Sat.read a).2 = 0 then (if grpE (bb b) = 0 then (if (Sat.parseL c).2.2 = 0 then (⟨(Sat.read a).1, bb b, (Sat.parseL c).1, (Sat.parseL c).2.1⟩, 0) else (zrow, (Sat.parseL c).2.2)) else (zrow, grpE (bb b))) else (zrow, (Sat.read a).2) := by
  unfold rread; rw [h]
theorem rread_else {p : List UInt8} (h : (Word.parts 124 p).length ≠ 3) : rread p = (zrow, 2) := by
  unfold rread
  split
  · rename_i a b c e; rw [e] at h; exact absurd rfl h
  · rfl
/-- All of them, or the first error. -/
def rall (ps : List (List UInt8)) : List Row × Int :=
  match ps.find? (fun p => decide (¬ (rread p).2 = 0)) with
  | some p => ([], (rread p).2)
  | none => (ps.map fun p => (rread p).1, 0)
theorem rall_bad {ps : List (List UInt8)} {k : Nat} (hk : k < ps.length) (h1 : ∀ j (hj : j < ps.length), j < k → (rread ps[j]).2 = 0) (h2 : ¬ (rread ps[k]).2 = 0) : rall ps = ([], (rread ps[k]).2) := by
  unfold rall
  have : ps.find? (fun p => decide (¬ (rread p).2 = 0)) = some ps[k] := by
    rw [List.find?_eq_some_iff_getElem]
    refine ⟨by simp [h2], k, hk, rfl, fun j hj => ?_⟩
    simp [h1 j (by omega) hj]
  rw [this]
theorem rall_ok {ps : List (List UInt8)} (h : ∀ j (hj : j < ps.length), (rread ps[j]).2 = 0) : rall ps = (ps.map fun p => (rread p).1, 0) := by
  unfold rall
  have : ps.find? (fun p => decide (¬ (rread p).2 = 0)) = none := by
    rw [List.find?_eq_none]; intro x hx
    obtain ⟨i, hi, rfl⟩ := List.mem_iff_getElem.1 hx
    simp [h i hi]
  rw [this]
theorem rall_zero {ps : List (List UInt8)} (h : (rall ps).2 = 0) : ∀ p ∈ ps, (rread p).2 = 0 := by
  unfold rall at h
  cases hf : ps.find? (fun p => decide (¬ (rread p).2 = 0)) with
  | none =>
    rw [List.find?_eq_none] at hf
    intro p hp; simpa using hf p hp
  | some p =>
    rw [hf] at h
    have := List.find?_some hf
    simp at this; exact absurd h this
/-- What a text tells. -/
def rparse (s : List UInt8) : List Row × Int :=
  if s = [45] then ([], 0) else if (rall (Word.parts 59 s)).2 = 0 then (if rise (rall (Word.parts 59 s)).1 then rall (Word.parts 59 s) else ([], 9)) else ([], (rall (Word.parts 59 s)).2)

/-! ### there and back -/
theorem value_no {s : ByteArray} (h : grpE s = 0) (c : UInt8) (hc : Word.value [c] = false) (h1 : c ≠ 61) (h2 : c ≠ 44) : c ∉ s.data.toList := by
  obtain ⟨h3, h4⟩ := grpE_zero h
  rw [← h4]
  have hr := parse_ok h3
  have ha : (parse s.data.toList).1.all may = true := by
    unfold right at hr; simp only [Bool.and_eq_true] at hr; exact hr.1.1
  unfold text
  refine join_blank c 44 (Ne.symm h2) _ (fun x hx => ?_)
  obtain ⟨t, ht, rfl⟩ := List.mem_map.1 hx
  have hm : may t = true := List.all_eq_true.1 ha t ht
  unfold may at hm
  simp only [Bool.and_eq_true] at hm
  unfold pair
  rw [List.mem_append, List.mem_cons]
  rintro (h5 | h5 | h5)
  · exact Word.value_mem _ c (Word.name_value _ hm.1) hc h5
  · exact h1 h5
  · exact Word.value_mem _ c hm.2 hc h5
theorem digs_no {l : List UInt8} (h : Sat.digs l = true) (c : UInt8) (hc : 57 < c.toNat) : c ∉ l := by
  intro hm
  have := List.all_eq_true.1 h c hm
  rw [Sat.dgt_iff] at this; omega
theorem itoa_no (n : Int) (c : UInt8) (hc : 57 < c.toNat) : c ∉ Lib.itoa n := by
  have hd := fun u => (Sat.dec_facts u).1
  unfold Lib.itoa
  split
  · rw [List.mem_cons]
    rintro (h | h)
    · rw [h] at hc; simp at hc
    · exact digs_no (hd _) c hc h
  · exact digs_no (hd _) c hc
theorem textL_no (n : Int) (o : Bool) (c : UInt8) (hc : 57 < c.toNat) : c ∉ Sat.textL n o := by
  unfold Sat.textL
  split
  · rw [List.mem_append]
    rintro (h | h)
    · exact itoa_no n c hc h
    · simp at h; rw [h] at hc; simp at hc
  · exact itoa_no n c hc
theorem rtxt_join (r : Row) : rtxt r = Lib.join [Lib.itoa r.win, gl r, Sat.textL r.n r.ov] [124] := by
  unfold rtxt
  simp [Lib.join]
theorem rtxt_parts {r : Row} (h : grpE r.grp = 0) : Word.parts 124 (rtxt r) = [Lib.itoa r.win, gl r, Sat.textL r.n r.ov] := by
  rw [rtxt_join]
  refine Word.parts_join 124 _ (by simp) (fun x hx => ?_)
  simp only [List.mem_cons, List.not_mem_nil, or_false] at hx
  rcases hx with rfl | rfl | rfl
  · exact itoa_no _ _ (by decide)
  · exact value_no h 124 (by decide) (by decide) (by decide)
  · exact textL_no _ _ _ (by decide)
theorem rread_text {r : Row} (h : grpE r.grp = 0) (ho : okR r) : rread (rtxt r) = (r, 0) := by
  rw [rread_three (rtxt_parts h), Sat.read_itoa _ ho.1.1 ho.1.2, Sat.parse_text _ _ ho.2.1 ho.2.2]
  have e : bb (gl r) = r.grp := bb_eq _
  rw [e, if_pos rfl, if_pos h, if_pos rfl]
theorem rtxt_no {r : Row} (h : grpE r.grp = 0) : (59 : UInt8) ∉ rtxt r := by
  unfold rtxt
  rw [List.mem_append, List.mem_cons, List.mem_append, List.mem_cons]
  rintro (h1 | h1 | h1 | h1 | h1)
  · exact itoa_no _ _ (by decide) h1
  · cases h1
  · exact value_no h 59 (by decide) (by decide) (by decide) h1
  · cases h1
  · exact textL_no _ _ _ (by decide) h1
theorem mem_join {c : UInt8} (s : UInt8) : ∀ {xs : List (List UInt8)} {x : List UInt8}, x ∈ xs → c ∈ x → c ∈ Lib.join xs [s]
  | [], _, h, _ => by simp at h
  | [y], x, h, hc => by simp at h; subst h; simpa [Lib.join] using hc
  | y :: z :: r, x, h, hc => by
    have e : Lib.join (y :: z :: r) [s] = y ++ [s] ++ Lib.join (z :: r) [s] := by simp [Lib.join]
    rw [e, List.mem_append, List.mem_append]
    rcases List.mem_cons.1 h with rfl | h
    · exact Or.inl (Or.inl hc)
    · exact Or.inr (mem_join s h hc)
theorem rtext_ne {l : List Row} (h : l ≠ []) : rtext l ≠ [45] := by
  intro e
  obtain ⟨r, t, rfl⟩ := List.exists_cons_of_ne_nil h
  have hm : (124 : UInt8) ∈ rtext (r :: t) := by
    unfold rtext; rw [if_neg h]
    refine mem_join 59 (x := rtxt r) (by simp) ?_
    unfold rtxt; simp
  rw [e] at hm; simp at hm
/-- There and back. -/
theorem rparse_text {l : List Row} (h : rright l = true) (ho : ∀ r ∈ l, okR r) : rparse (rtext l) = (l, 0) := by
  obtain ⟨h1, h2⟩ := rright_true.1 h
  by_cases he : l = []
  · subst he; rfl
  · unfold rparse
    rw [if_neg (rtext_ne he)]
    have hp : Word.parts 59 (rtext l) = l.map rtxt := by
      unfold rtext; rw [if_neg he]
      refine Word.parts_join 59 _ (by simpa using he) (fun x hx => ?_)
      obtain ⟨r, hr, rfl⟩ := List.mem_map.1 hx
      exact rtxt_no (h1 r hr)
    have hr : ∀ r ∈ l, rread (rtxt r) = (r, 0) := fun r hr => rread_text (h1 r hr) (ho r hr)
    have ha : rall (l.map rtxt) = (l, 0) := by
      rw [rall_ok (fun j hj => by rw [List.getElem_map, hr _ (List.getElem_mem _)]), List.map_map]
      congr 1
      have : l.map ((fun p => (rread p).1) ∘ rtxt) = l.map id := List.map_congr_left (fun r hr' => by simp [hr r hr'])
      rw [this, List.map_id]
    rw [hp, ha, if_pos rfl, if_pos h2]
theorem rread_back {p : List UInt8} (h : (rread p).2 = 0) : rtxt (rread p).1 = p ∧ grpE (rread p).1.grp = 0 ∧ okR (rread p).1 := by
  by_cases hl : (Word.parts 124 p).length = 3
  · obtain ⟨a, b, c, e⟩ : ∃ a b c, Word.parts 124 p = [a, b, c] := by
      match hq : Word.parts 124 p, hl with
      | [a, b, c], _ => exact ⟨a, b, c, rfl⟩
    rw [rread_three e] at h ⊢
    by_cases h1 : (Sat.read a).2 = 0
    · rw [if_pos h1] at h ⊢
      by_cases h2 : grpE (bb b) = 0
      · rw [if_pos h2] at h ⊢
        by_cases h3 : (Sat.parseL c).2.2 = 0
        · rw [if_pos h3] at h ⊢
          refine ⟨?_, h2, Sat.read_bounds a, Sat.parse_bounds c⟩
          rw [rtxt_join]
          simp only [gl, bb_list]
          rw [Sat.itoa_read a h1, Sat.text_parse c h3, ← e, Word.join_parts]
        · rw [if_neg h3] at h; exact absurd h h3
      · rw [if_neg h2] at h; exact absurd h h2
    · rw [if_neg h1] at h; exact absurd h h1
  · rw [rread_else hl] at h; cases h
theorem rparse_err {s : List UInt8} (h : ¬ (rparse s).2 = 0) : (rparse s).1 = [] := by
  unfold rparse at *
  by_cases h0 : s = [45]
  · rw [if_pos h0]
  · rw [if_neg h0] at h ⊢
    by_cases h1 : (rall (Word.parts 59 s)).2 = 0
    · rw [if_pos h1] at h ⊢
      cases h2 : rise (rall (Word.parts 59 s)).1
      · rfl
      · rw [h2] at h; exact absurd h1 h
    · rw [if_neg h1]
theorem rparse_back {s : List UInt8} (h : (rparse s).2 = 0) : rtext (rparse s).1 = s ∧ rright (rparse s).1 = true ∧ ∀ r ∈ (rparse s).1, okR r := by
  unfold rparse at *
  by_cases h0 : s = [45]
  · rw [if_pos h0]; exact ⟨h0.symm, rfl, fun r hr => by cases hr⟩
  · rw [if_neg h0] at h ⊢
    by_cases h1 : (rall (Word.parts 59 s)).2 = 0
    · rw [if_pos h1] at h ⊢
      cases h2 : rise (rall (Word.parts 59 s)).1
      · rw [h2] at h; cases h
      · have hz := rall_zero h1
        have ha := rall_ok (ps := Word.parts 59 s) (fun j hj => hz _ (List.getElem_mem hj))
        rw [if_pos rfl]
        rw [ha] at h2 ⊢
        have hne := Word.parts_ne 59 s
        refine ⟨?_, rright_true.2 ⟨fun r hr => ?_, h2⟩, fun r hr => ?_⟩
        · unfold rtext
          rw [if_neg (by simpa using hne), List.map_map]
          have : (Word.parts 59 s).map (rtxt ∘ fun p => (rread p).1) = (Word.parts 59 s).map id := List.map_congr_left (fun p hp => (rread_back (hz p hp)).1)
          rw [this, List.map_id, Word.join_parts]
        · obtain ⟨p, hp, rfl⟩ := List.mem_map.1 hr
          exact (rread_back (hz p hp)).2.1
        · obtain ⟨p, hp, rfl⟩ := List.mem_map.1 hr
          exact (rread_back (hz p hp)).2.2
    · rw [if_neg h1] at h; exact absurd h h1

end Go.Proofs.YtehgpibngalhfaaGreatDoor.Rw
