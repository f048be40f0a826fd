/- Plain mathematics of queries: may they be, their text, what is parsed from it; no program, no conditions. -/
import Derived.Test.YtehgpibngalhfaaGreatDoorM3
import Derived.Test.YtehgpibngalhfaaGreatDoorM4
namespace Go.Proofs.YtehgpibngalhfaaGreatDoor.Qy
open Go Tg Pk Ky

/-- What an agg is called. -/
def aggW (a : Int) : List UInt8 :=
  if a = 1 then [99, 111, 117, 110, 116] else if a = 2 then [115, 117, 109] else if a = 3 then [109, 105, 110] else if a = 4 then [109, 97, 120] else []
/-- The number of a word. -/
def aggN (w : List UInt8) : Int :=
  if w = [99, 111, 117, 110, 116] then 1 else if w = [115, 117, 109] then 2 else if w = [109, 105, 110] then 3 else if w = [109, 97, 120] then 4 else 0
def wby : List UInt8 := [98, 121]
def nmB (s : ByteArray) : Bool := Word.name s.data.toList
/-- Are two alike? -/
def twice : List ByteArray → Bool
  | [] => false
  | x :: r => r.any (fun y => eqB y x) || twice r
/-- What is wrong with names behind by. -/
def byE (l : List ByteArray) : Int := if l.all nmB then (if l.length ≤ 4 then (if twice l then 5 else 0) else 4) else 2
theorem byE_nil : byE [] = 0 := rfl
theorem byE_form {l : List ByteArray} (h : l.all nmB = false) : byE l = 2 := by unfold byE; rw [h]; rfl
theorem byE_many {l : List ByteArray} (h : l.all nmB = true) (h2 : 4 < l.length) : byE l = 4 := by unfold byE; rw [h, if_pos rfl, if_neg (by omega)]
theorem byE_twice {l : List ByteArray} (h : l.all nmB = true) (h2 : l.length ≤ 4) : byE l = if twice l then 5 else 0 := by unfold byE; rw [h, if_pos rfl, if_pos h2]
theorem byE_ok {l : List ByteArray} (h : byE l = 0) : l.all nmB = true ∧ l.length ≤ 4 ∧ twice l = false := by
  unfold byE at h
  cases ha : l.all nmB
  · rw [ha] at h; simp at h
  · rw [ha, if_pos rfl] at h
    by_cases hl : l.length ≤ 4
    · rw [if_pos hl] at h
      cases ht : twice l
      · exact ⟨rfl, hl, rfl⟩
      · rw [ht] at h; simp at h
    · rw [if_neg hl] at h; simp at h

/-- Is the one at k among those ahead of it? -/
def seen (l : List ByteArray) (k : Nat) : Bool := match l[k]? with | some x => (l.take k).any (fun y => eqB y x) | none => false
/-- Was one seen ahead of the place k? -/
def twiceTo (l : List ByteArray) (k : Nat) : Bool := (List.range k).any (seen l)
theorem twiceTo_zero (l : List ByteArray) : twiceTo l 0 = false := rfl
theorem twiceTo_succ (l : List ByteArray) (k : Nat) : twiceTo l (k + 1) = (twiceTo l k || seen l k) := by
  unfold twiceTo
  rw [List.range_succ, List.any_append]
  simp
theorem twice_iff : ∀ l : List ByteArray, twice l = true ↔ ∃ i j, i < j ∧ j < l.length ∧ l[i]? = l[j]?
  | [] => by simp [twice]
  | x :: r => by
    have ih := twice_iff r
    rw [twice, Bool.or_eq_true, ih, List.any_eq_true]
    constructor
    · rintro (⟨y, hy, he⟩ | ⟨i, j, h1, h2, h3⟩)
      · have he := (eqB_true y x).1 he
        subst he
        obtain ⟨j, hj, hg⟩ := List.mem_iff_getElem.1 hy
        refine ⟨0, j + 1, by omega, by simp; omega, ?_⟩
        simp only [List.getElem?_cons_zero, List.getElem?_cons_succ]
        rw [List.getElem?_eq_getElem hj, hg]
      · exact ⟨i + 1, j + 1, by omega, by simp; omega, by simpa using h3⟩
    · rintro ⟨i, j, h1, h2, h3⟩
      obtain ⟨j, rfl⟩ : ∃ j', j = j' + 1 := ⟨j - 1, by omega⟩
      cases i with
      | zero =>
        left
        have hj : j < r.length := by simpa using h2
        refine ⟨r[j], List.getElem_mem hj, (eqB_true _ _).2 ?_⟩
        have h4 : some x = r[j]? := by simpa using h3
        rw [List.getElem?_eq_getElem hj] at h4
        exact (Option.some.inj h4).symm
      | succ i =>
        right
        exact ⟨i, j, by omega, by simpa using h2, by simpa using h3⟩
theorem seen_iff (l : List ByteArray) (k : Nat) : seen l k = true ↔ ∃ i, i < k ∧ k < l.length ∧ l[i]? = l[k]? := by
  unfold seen
  by_cases hk : k < l.length
  · rw [List.getElem?_eq_getElem hk]
    simp only [List.any_eq_true]
    constructor
    · rintro ⟨y, hy, he⟩
      have he := (eqB_true _ _).1 he
      obtain ⟨i, hi, hg⟩ := List.mem_iff_getElem.1 hy
      rw [List.length_take] at hi
      rw [List.getElem_take] at hg
      refine ⟨i, by omega, hk, ?_⟩
      rw [List.getElem?_eq_getElem (by omega), hg, he]
    · rintro ⟨i, h1, _, h3⟩
      rw [List.getElem?_eq_getElem (by omega)] at h3
      refine ⟨l[i], ?_, (eqB_true _ _).2 (Option.some.inj h3)⟩
      rw [List.mem_iff_getElem]
      refine ⟨i, by rw [List.length_take]; omega, ?_⟩
      rw [List.getElem_take]
  · rw [List.getElem?_eq_none (by omega)]
    simp only [Bool.false_eq_true, false_iff]
    rintro ⟨i, _, h, _⟩
    exact hk h
theorem twiceTo_all (l : List ByteArray) : twiceTo l l.length = twice l := by
  rw [Bool.eq_iff_iff, twice_iff]
  unfold twiceTo
  rw [List.any_eq_true]
  constructor
  · rintro ⟨k, _, hs⟩
    obtain ⟨i, h1, h2, h3⟩ := (seen_iff l k).1 hs
    exact ⟨i, k, h1, h2, h3⟩
  · rintro ⟨i, j, h1, h2, h3⟩
    exact ⟨j, List.mem_range.2 h2, (seen_iff l j).2 ⟨i, h1, h2, h3⟩⟩
theorem twiceTo_true {l : List ByteArray} {k : Nat} (h : seen l k = true) : twice l = true := by
  obtain ⟨i, h1, h2, h3⟩ := (seen_iff l k).1 h
  exact (twice_iff l).2 ⟨i, k, h1, h2, h3⟩

/-- A query: its agg, its name, its matches, its names behind by. -/
abbrev Query := Int × ByteArray × List Match × List ByteArray
def qnone : Query := (0, ⟨#[]⟩, [], [])
def aggOk (a : Int) : Bool := decide (1 ≤ a) && decide (a ≤ 4)
def qright (q : Query) : Bool := aggOk q.1 && nmB q.2.1 && pright q.2.2.1 && decide (byE q.2.2.2 = 0)
def braced (m : List Match) : List UInt8 := if m = [] then [] else 123 :: (ptext m ++ [125])
def joinQ (l : List ByteArray) : List UInt8 := Lib.join (l.map fun s => s.data.toList) [44]
def behind (l : List ByteArray) : List UInt8 := if l = [] then [] else 32 :: 98 :: 121 :: 32 :: joinQ l
def qtextL (q : Query) : List UInt8 := aggW q.1 ++ 32 :: (q.2.1.data.toList ++ braced q.2.2.1 ++ behind q.2.2.2)
def qtext (q : Query) : List UInt8 := if qright q then qtextL q else []
def qread (x y : List UInt8) (B : List ByteArray) : Query × Int :=
  if aggN x = 0 then (qnone, 2) else
    match kcut y with
    | none => (qnone, 2)
    | some p => if Word.name p.1 then (if (pparse p.2).2 = 0 then (if byE B = 0 then ((aggN x, bb p.1, (pparse p.2).1, B), 0) else (qnone, byE B)) else (qnone, (pparse p.2).2)) else (qnone, 2)
def partsQ (u : List UInt8) : List ByteArray := (Word.parts 44 u).map bb
def qparseW (ws : List (List UInt8)) : Query × Int :=
  match ws with
  | [x, y] => qread x y []
  | [x, y, z, u] => if z = wby then qread x y (partsQ u) else (qnone, 2)
  | _ => (qnone, 2)
def qparse (s : List UInt8) : Query × Int := qparseW (Word.fields s)
def qfits (q : Query) (k : Key) : Bool := eqB k.1 q.2.1 && pfits k.2 q.2.2.1
def qgroup (q : Query) (k : Key) : List UInt8 := text (only k.2 q.2.2.2)

theorem aggW_ok (a : Int) : (aggW a = []) ↔ aggOk a = false := by
  unfold aggW aggOk
  by_cases h1 : a = 1
  · subst h1; decide
  · by_cases h2 : a = 2
    · subst h2; decide
    · by_cases h3 : a = 3
      · subst h3; decide
      · by_cases h4 : a = 4
        · subst h4; decide
        · rw [if_neg h1, if_neg h2, if_neg h3, if_neg h4]
          simp
          omega
theorem agg_cases {a : Int} (h : aggOk a = true) : a = 1 ∨ a = 2 ∨ a = 3 ∨ a = 4 := by
  unfold aggOk at h
  simp only [Bool.and_eq_true, decide_eq_true_eq] at h
  omega
theorem aggN_W {a : Int} (h : aggOk a = true) : aggN (aggW a) = a := by
  rcases agg_cases h with rfl | rfl | rfl | rfl <;> decide
theorem aggW_N {w : List UInt8} (h : aggN w ≠ 0) : aggOk (aggN w) = true := by
  unfold aggN at h ⊢
  by_cases h1 : w = [99, 111, 117, 110, 116]
  · rw [if_pos h1]; decide
  · rw [if_neg h1] at h ⊢
    by_cases h2 : w = [115, 117, 109]
    · rw [if_pos h2]; decide
    · rw [if_neg h2] at h ⊢
      by_cases h3 : w = [109, 105, 110]
      · rw [if_pos h3]; decide
      · rw [if_neg h3] at h ⊢
        by_cases h4 : w = [109, 97, 120]
        · rw [if_pos h4]; decide
        · rw [if_neg h4] at h; exact absurd rfl h
theorem aggW_word {a : Int} (h : aggOk a = true) : (32 : UInt8) ∉ aggW a ∧ aggW a ≠ [] := by
  rcases agg_cases h with rfl | rfl | rfl | rfl <;> decide

theorem ptxt_blank {m : Match} (h : pmay m = true) : (32 : UInt8) ∉ (ptxt m).data.toList := by
  obtain ⟨k, n, v⟩ := m
  simp only [pmay, Bool.and_eq_true] at h
  obtain ⟨hn, hv⟩ := h
  simp only [nm, vl] at hn hv
  have n1 := Word.value_mem _ 32 (Word.name_value _ hn) (by decide)
  have hvs : Word.value v.data.toList = true → (32 : UInt8) ∉ v.data.toList := fun h => Word.value_mem _ 32 h (by decide)
  unfold pval at hv
  unfold ptxt
  by_cases k1 : k = 1
  · subst k1
    simp only [if_true] at hv ⊢
    rw [app_list, app_list]
    simp [n1, hvs hv]
  · by_cases k2 : k = 2
    · subst k2
      simp only [k1, if_false, if_true] at hv ⊢
      rw [app_list, app_list]
      simp [n1, hvs hv]
    · by_cases k3 : k = 3
      · subst k3
        simp only [k1, k2, if_false, if_true] at hv ⊢
        have v1 : (32 : UInt8) ∉ v.data.toList := by
          rw [Bool.or_eq_true] at hv
          rcases hv with hv | hv
          · rw [List.isEmpty_iff] at hv
            rw [hv]
            simp
          · exact hvs hv
        rw [app_list, app_list, app_list]
        simp [n1, v1]
      · simp only [k1, k2, k3, if_false]
        exact n1
theorem join_blank (c s : UInt8) (hs : s ≠ c) : ∀ xs : List (List UInt8), (∀ x ∈ xs, c ∉ x) → c ∉ Lib.join xs [s]
  | [], _ => by rw [Lib.join_nil]; simp
  | [x], h => by rw [Lib.join_one]; exact h x (by simp)
  | x :: y :: r, h => by
    have ih := join_blank c s hs (y :: r) (fun z hz => h z (by simp at hz ⊢; right; exact hz))
    have hx := h x (by simp)
    rw [Lib.join_cons] at ih ⊢
    rw [Lib.joinTail, List.map_cons, List.flatten_cons]
    rw [Lib.joinTail] at ih
    intro hm
    rcases List.mem_append.1 hm with h1 | h1
    · exact hx h1
    · rw [List.append_assoc] at h1
      rcases List.mem_append.1 h1 with h2 | h2
      · simp at h2; exact hs h2.symm
      · exact ih h2
theorem ptext_blank {l : List Match} (h : l.all pmay = true) : (32 : UInt8) ∉ ptext l := by
  unfold ptext
  refine join_blank 32 44 (by decide) _ ?_
  intro x hx
  obtain ⟨m, hm, rfl⟩ := List.mem_map.1 hx
  exact ptxt_blank (List.all_eq_true.1 h m hm)
theorem braced_blank {l : List Match} (h : l.all pmay = true) : (32 : UInt8) ∉ braced l := by
  unfold braced
  split
  · simp
  · have := ptext_blank h
    simp [this]
theorem names_mem (c : UInt8) (hc : Word.value [c] = false) {l : List ByteArray} (h : l.all nmB = true) : ∀ x ∈ l.map (fun s => s.data.toList), c ∉ x := by
  intro x hx
  obtain ⟨s, hs, rfl⟩ := List.mem_map.1 hx
  exact Word.value_mem _ c (Word.name_value _ (List.all_eq_true.1 h s hs)) hc
theorem joinQ_ne {l : List ByteArray} (h0 : l ≠ []) (h : l.all nmB = true) : joinQ l ≠ [] := by
  cases l with
  | nil => exact absurd rfl h0
  | cons t r =>
    intro e
    unfold joinQ at e
    rw [List.map_cons, Lib.join_cons] at e
    have h1 := (List.append_eq_nil_iff.1 e).1
    have h2 : nmB t = true := List.all_eq_true.1 h t (by simp)
    exact Word.value_ne _ (Word.name_value _ h2) h1
theorem partsQ_join {l : List ByteArray} (h0 : l ≠ []) (h : l.all nmB = true) : partsQ (joinQ l) = l := by
  unfold partsQ joinQ
  rw [Word.parts_join 44 _ (by simpa using h0) (names_mem 44 (by decide) h), List.map_map]
  conv => rhs; rw [← List.map_id l]
  apply List.map_congr_left
  intro s _
  exact bb_eq s
/-- The words of a query's text. -/
def qwords (q : Query) : List (List UInt8) :=
  if q.2.2.2 = [] then [aggW q.1, q.2.1.data.toList ++ braced q.2.2.1] else [aggW q.1, q.2.1.data.toList ++ braced q.2.2.1, wby, joinQ q.2.2.2]
theorem join2 (a b : List UInt8) : Lib.join [a, b] [32] = a ++ 32 :: b := by
  rw [Lib.join_cons]; simp [Lib.joinTail]
theorem join4 (a b c d : List UInt8) : Lib.join [a, b, c, d] [32] = a ++ 32 :: (b ++ 32 :: (c ++ 32 :: d)) := by
  rw [Lib.join_cons]; simp [Lib.joinTail]
theorem qtext_join (q : Query) : Lib.join (qwords q) [32] = qtextL q := by
  unfold qwords qtextL behind
  by_cases h : q.2.2.2 = []
  · rw [if_pos h, if_pos h, join2, List.append_nil]
  · rw [if_neg h, if_neg h, join4]
    simp [wby]
theorem qtext_fields {q : Query} (h : qright q = true) : Word.fields (qtextL q) = qwords q := by
  simp only [qright, Bool.and_eq_true, decide_eq_true_eq] at h
  obtain ⟨⟨⟨ha, hn⟩, hm⟩, hb⟩ := h
  obtain ⟨hb1, hb2, hb3⟩ := byE_ok hb
  simp only [pright, Bool.and_eq_true, decide_eq_true_eq] at hm
  obtain ⟨a1, a2⟩ := aggW_word ha
  have n1 : (32 : UInt8) ∉ q.2.1.data.toList := Word.value_mem _ 32 (Word.name_value _ hn) (by decide)
  have n2 : q.2.1.data.toList ≠ [] := Word.value_ne _ (Word.name_value _ hn)
  have m1 := braced_blank hm.2
  have y1 : (32 : UInt8) ∉ q.2.1.data.toList ++ braced q.2.2.1 := by
    intro hh
    rcases List.mem_append.1 hh with h1 | h1
    · exact n1 h1
    · exact m1 h1
  have y2 : q.2.1.data.toList ++ braced q.2.2.1 ≠ [] := fun e => n2 (List.append_eq_nil_iff.1 e).1
  rw [← qtext_join]
  refine Word.fields_join _ ?_ ?_ ?_
  · unfold qwords; split <;> simp
  · unfold qwords
    split
    · intro x hx
      rcases List.mem_cons.1 hx with rfl | hx
      · exact a1
      · rcases List.mem_cons.1 hx with rfl | hx
        · exact y1
        · cases hx
    · intro x hx
      rcases List.mem_cons.1 hx with rfl | hx
      · exact a1
      · rcases List.mem_cons.1 hx with rfl | hx
        · exact y1
        · rcases List.mem_cons.1 hx with rfl | hx
          · decide
          · rcases List.mem_cons.1 hx with rfl | hx
            · exact join_blank 32 44 (by decide) _ (names_mem 32 (by decide) hb1)
            · cases hx
  · unfold qwords
    split
    · intro x hx
      rcases List.mem_cons.1 hx with rfl | hx
      · exact a2
      · rcases List.mem_cons.1 hx with rfl | hx
        · exact y2
        · cases hx
    · rename_i h0
      intro x hx
      rcases List.mem_cons.1 hx with rfl | hx
      · exact a2
      · rcases List.mem_cons.1 hx with rfl | hx
        · exact y2
        · rcases List.mem_cons.1 hx with rfl | hx
          · decide
          · rcases List.mem_cons.1 hx with rfl | hx
            · exact joinQ_ne h0 hb1
            · cases hx
theorem kcut_braced {n : List UInt8} (hn : Word.name n = true) {m : List Match} (hm : m.all pmay = true) : kcut (n ++ braced m) = some (n, ptext m) := by
  have h1 := Word.value_mem n 123 (Word.name_value _ hn) (by decide)
  unfold braced kcut
  by_cases h : m = []
  · rw [if_pos h, List.append_nil, cutC_none 123 n h1, h]
    rfl
  · rw [if_neg h, cutC_app 123 n _ h1]
    obtain ⟨a1, a2⟩ := suffix_app (ptext m)
    have h2 := ptext_ne h hm
    simp only [a1, a2]
    cases ht : ptext m with
    | nil => exact absurd ht h2
    | cons _ _ => rfl
/-- There and back. -/
theorem qparse_text {q : Query} (h : qright q = true) : qparse (qtextL q) = (q, 0) := by
  have hr := h
  simp only [qright, Bool.and_eq_true, decide_eq_true_eq] at h
  obtain ⟨⟨⟨ha, hn⟩, hm⟩, hb⟩ := h
  obtain ⟨hb1, hb2, hb3⟩ := byE_ok hb
  have hm' := hm
  simp only [pright, Bool.and_eq_true, decide_eq_true_eq] at hm'
  have hread : ∀ B, byE B = 0 → qread (aggW q.1) (q.2.1.data.toList ++ braced q.2.2.1) B = ((q.1, q.2.1, q.2.2.1, B), 0) := by
    intro B hB
    unfold qread
    have ha0 : ¬ (aggN (aggW q.1) = 0) := by
      rw [aggN_W ha]
      have := agg_cases ha
      omega
    rw [if_neg ha0, kcut_braced hn hm'.2]
    simp only
    rw [if_pos (show Word.name q.2.1.data.toList = true from hn), pparse_text hm, if_pos rfl, if_pos hB, aggN_W ha, bb_eq]
  unfold qparse
  rw [qtext_fields hr]
  unfold qwords qparseW
  by_cases h0 : q.2.2.2 = []
  · rw [if_pos h0]
    simp only
    rw [hread [] byE_nil]
    obtain ⟨a, n, m, b⟩ := q
    simp only at h0
    subst h0
    rfl
  · rw [if_neg h0]
    simp only [if_true]
    rw [partsQ_join h0 hb1, hread _ hb]
theorem qread_ok {x y : List UInt8} {B : List ByteArray} (h : (qread x y B).2 = 0) : qright (qread x y B).1 = true := by
  unfold qread at h ⊢
  by_cases h1 : aggN x = 0
  · rw [if_pos h1] at h; simp at h
  · rw [if_neg h1] at h ⊢
    cases hc : kcut y with
    | none => rw [hc] at h; simp at h
    | some p =>
      rw [hc] at h
      simp only at h ⊢
      by_cases h2 : Word.name p.1 = true
      · rw [if_pos h2] at h ⊢
        by_cases h3 : (pparse p.2).2 = 0
        · rw [if_pos h3] at h ⊢
          by_cases h4 : byE B = 0
          · rw [if_pos h4]
            unfold qright nmB
            simp only [bb_list]
            rw [aggW_N h1, h2, (pparse_ok h3).1, decide_eq_true h4]
            rfl
          · rw [if_neg h4] at h
            exact absurd h h4
        · rw [if_neg h3] at h
          exact absurd h h3
      · rw [if_neg h2] at h
        simp at h
theorem qread_err {x y : List UInt8} {B : List ByteArray} (h : (qread x y B).2 ≠ 0) : (qread x y B).1 = qnone := by
  unfold qread at h ⊢
  by_cases h1 : aggN x = 0
  · rw [if_pos h1]
  · rw [if_neg h1] at h ⊢
    cases hc : kcut y with
    | none => rfl
    | some p =>
      rw [hc] at h
      simp only at h ⊢
      by_cases h2 : Word.name p.1 = true
      · rw [if_pos h2] at h ⊢
        by_cases h3 : (pparse p.2).2 = 0
        · rw [if_pos h3] at h ⊢
          by_cases h4 : byE B = 0
          · rw [if_pos h4] at h
            exact absurd rfl h
          · rw [if_neg h4]
        · rw [if_neg h3]
      · rw [if_neg h2]
theorem qparse_two {s x y : List UInt8} (h : Word.fields s = [x, y]) : qparse s = qread x y [] := by unfold qparse; rw [h]; rfl
theorem qparse_four {s x y z u : List UInt8} (h : Word.fields s = [x, y, z, u]) : qparse s = if z = wby then qread x y (partsQ u) else (qnone, 2) := by unfold qparse; rw [h]; rfl
theorem qparse_else {s : List UInt8} (h2 : (Word.fields s).length ≠ 2) (h4 : (Word.fields s).length ≠ 4) : qparse s = (qnone, 2) := by
  unfold qparse qparseW
  split
  · rename_i h; rw [h] at h2; simp at h2
  · rename_i h; rw [h] at h4; simp at h4
  · rfl
theorem qparse_ok {s : List UInt8} (h : (qparse s).2 = 0) : qright (qparse s).1 = true := by
  unfold qparse qparseW at h ⊢
  split at h
  · exact qread_ok h
  · split at h
    · rename_i hz
      rw [if_pos hz]
      exact qread_ok h
    · simp at h
  · simp at h
theorem qparse_err {s : List UInt8} (h : (qparse s).2 ≠ 0) : (qparse s).1 = qnone := by
  unfold qparse qparseW at h ⊢
  split at h
  · exact qread_err h
  · split at h
    · rename_i hz
      rw [if_pos hz]
      exact qread_err h
    · rename_i hz
      rw [if_neg hz]
  · rfl
theorem qtext_right {q : Query} (h : qright q = true) : qtext q = qtextL q := by unfold qtext; rw [if_pos h]
end Go.Proofs.YtehgpibngalhfaaGreatDoor.Qy
