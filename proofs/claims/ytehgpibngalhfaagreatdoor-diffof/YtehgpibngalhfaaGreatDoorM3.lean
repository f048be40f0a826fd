/- Plain mathematics of matches: what tags must be, their text, what is parsed from it; no program, no conditions. -/
import Derived.Test.YtehgpibngalhfaaGreatDoorM2
import Derived.Lib.Strings
namespace Go.Proofs.YtehgpibngalhfaaGreatDoor.Pk
open Go Tg

/-- A match: its kind, its name and its value. -/
abbrev Match := Int × Tag
def bb (l : List UInt8) : ByteArray := ⟨l.toArray⟩
theorem bb_list (l : List UInt8) : (bb l).data.toList = l := by simp [bb]
theorem bb_eq (s : ByteArray) : bb s.data.toList = s := by apply ByteArray.ext; simp [bb]
theorem bb_inj {a b : ByteArray} (h : a.data.toList = b.data.toList) : a = b := by rw [← bb_eq a, h, bb_eq]
/-- Is its value as its kind asks? -/
def pval (k : Int) (v : List UInt8) : Bool :=
  if k = 1 then Word.value v else if k = 2 then Word.value v else if k = 3 then v.isEmpty || Word.value v else if k = 4 then v.isEmpty else false
def pmay (m : Match) : Bool := Word.name (nm m.2) && pval m.1 (vl m.2)
def pright (l : List Match) : Bool := decide (l.length ≤ 4) && l.all pmay
/-- Do tags that have the value v of its name (or none) fit? -/
def pfit (k : Int) (x v : ByteArray) (ok : Bool) : Bool :=
  if k = 1 then ok && eqB v x else if k = 2 then !(ok && eqB v x) else if k = 3 then ok && Lib.hasPrefix v.data.toList x.data.toList else if k = 4 then ok else false
def pone (t : List Tag) (m : Match) : Bool := pfit m.1 m.2.2 (find t m.2.1).1 (find t m.2.1).2
def pfits (t : List Tag) (l : List Match) : Bool := l.all (pone t)
/-- Its text. -/
def ptxt (m : Match) : ByteArray :=
  if m.1 = 1 then m.2.1 ++ ⟨#[61]⟩ ++ m.2.2 else if m.1 = 2 then m.2.1 ++ ⟨#[33, 61]⟩ ++ m.2.2 else if m.1 = 3 then m.2.1 ++ ⟨#[61]⟩ ++ m.2.2 ++ ⟨#[42]⟩ else m.2.1
def ptext (l : List Match) : List UInt8 := Lib.join (l.map fun m => (ptxt m).data.toList) [44]
theorem app_list (a b : ByteArray) : (a ++ b).data.toList = a.data.toList ++ b.data.toList := by simp
/-- What stands ahead of the first text sep, and behind it. -/
def cutAt (sep : List UInt8) : List UInt8 → Option (List UInt8 × List UInt8)
  | [] => none
  | b :: r => if sep.isPrefixOf (b :: r) then some ([], (b :: r).drop sep.length) else (cutAt sep r).map fun p => (b :: p.1, p.2)
theorem cutAt_nil (sep : List UInt8) : cutAt sep [] = none := by rw [cutAt]
theorem cutAt_hit {sep : List UInt8} {b : UInt8} {r : List UInt8} (h : sep.isPrefixOf (b :: r) = true) : cutAt sep (b :: r) = some ([], (b :: r).drop sep.length) := by rw [cutAt, if_pos h]
theorem cutAt_miss {sep : List UInt8} {b : UInt8} {r : List UInt8} (h : sep.isPrefixOf (b :: r) = false) : cutAt sep (b :: r) = (cutAt sep r).map fun p => (b :: p.1, p.2) := by rw [cutAt, if_neg (by simp [h])]
theorem cutAt_eq (sep : List UInt8) (hs : sep ≠ []) : ∀ l : List UInt8, Lib.cut l sep = match cutAt sep l with | none => (l, [], false) | some p => (p.1, p.2, true)
  | [] => by
    cases sep with
    | nil => exact absurd rfl hs
    | cons c t => simp [Lib.cut, Lib.index, cutAt]
  | b :: r => by
    have ih := cutAt_eq sep hs r
    cases h : sep.isPrefixOf (b :: r) with
    | true =>
      have hix : Lib.index (b :: r) sep = 0 := by rw [Lib.index, if_pos h]
      unfold Lib.cut
      rw [hix, cutAt_hit h]
      simp
    | false =>
      rw [cutAt_miss h]
      unfold Lib.cut at ih ⊢
      have hix : Lib.index (b :: r) sep = if Lib.index r sep == -1 then -1 else Lib.index r sep + 1 := by rw [Lib.index, if_neg (by simp [h])]
      rw [hix]
      have hge := Lib.index_ge r sep
      by_cases hm : Lib.index r sep = -1
      · rw [hm] at ih ⊢
        rw [if_neg (by omega)] at ih
        simp only [beq_self_eq_true, if_true]
        rw [if_neg (by omega)]
        cases hc : cutAt sep r with
        | none => rfl
        | some p => rw [hc] at ih; simp at ih
      · obtain ⟨j, hj⟩ : ∃ j : Nat, Lib.index r sep = j := ⟨(Lib.index r sep).toNat, by omega⟩
        rw [hj] at ih ⊢
        have e1 : ((j : Int) == -1) = false := by simp
        have e3 : ((j : Int) + 1).toNat = j + 1 := by omega
        rw [if_pos (by omega)] at ih
        simp only [e1, Bool.false_eq_true, if_false, e3]
        rw [if_pos (by omega)]
        cases hc : cutAt sep r with
        | none => rw [hc] at ih; simp at ih
        | some p =>
          rw [hc] at ih
          simp only [Int.toNat_natCast, Prod.mk.injEq] at ih
          simp only [Option.map_some, List.take_succ_cons, Prod.mk.injEq, ih.1, true_and, and_true]
          rw [show j + 1 + sep.length = (j + sep.length) + 1 from by omega, List.drop_succ_cons]
          exact ih.2.1
theorem prefix_app {sep l : List UInt8} (h : sep.isPrefixOf l = true) : l = sep ++ l.drop sep.length := by
  rw [List.isPrefixOf_iff_prefix] at h
  obtain ⟨t, rfl⟩ := h
  simp
theorem cutAt_some (sep : List UInt8) : ∀ l p, cutAt sep l = some p → l = p.1 ++ (sep ++ p.2)
  | [], p, h => by rw [cutAt_nil] at h; cases h
  | b :: r, p, h => by
    cases hb : sep.isPrefixOf (b :: r) with
    | true =>
      rw [cutAt_hit hb] at h
      cases h
      exact prefix_app hb
    | false =>
      rw [cutAt_miss hb] at h
      cases hc : cutAt sep r with
      | none => rw [hc] at h; cases h
      | some q =>
        rw [hc] at h
        have ih := cutAt_some sep r q hc
        cases h
        rw [List.cons_append, ← ih]
theorem head_miss {c : UInt8} {sep : List UInt8} {b : UInt8} {r : List UInt8} (h : b ≠ c) : (c :: sep).isPrefixOf (b :: r) = false := by
  simp [List.isPrefixOf, Ne.symm h]
theorem cutAt_none (c : UInt8) (sep : List UInt8) : ∀ l, c ∉ l → cutAt (c :: sep) l = none
  | [], _ => cutAt_nil _
  | x :: a, h => by
    have ih := cutAt_none c sep a (fun e => h (by simp [e]))
    have hx : x ≠ c := fun e => h (by simp [e])
    rw [cutAt_miss (head_miss hx), ih]
    rfl
theorem cutAt_app (c : UInt8) (sep : List UInt8) (b : List UInt8) : ∀ (a : List UInt8), c ∉ a → cutAt (c :: sep) (a ++ (c :: sep ++ b)) = some (a, b)
  | [], _ => by
    have hp : (c :: sep).isPrefixOf (c :: (sep ++ b)) = true := by
      rw [List.isPrefixOf_iff_prefix]
      exact ⟨b, by simp⟩
    show cutAt (c :: sep) (c :: (sep ++ b)) = _
    rw [cutAt_hit hp]
    simp
  | x :: a, h => by
    have ih := cutAt_app c sep b a (fun e => h (by simp [e]))
    have hx : x ≠ c := fun e => h (by simp [e])
    rw [List.cons_append, cutAt_miss (head_miss hx), ih]
    rfl

/-- A part's match. -/
def pread (p : List UInt8) : Match :=
  match cutAt [33, 61] p with
  | some q => (2, bb q.1, bb q.2)
  | none => match cutAt [61] p with
    | none => (4, bb p, bb [])
    | some q => if Lib.hasSuffix q.2 [42] then (3, bb q.1, bb (Lib.trimSuffix q.2 [42])) else (1, bb q.1, bb q.2)
def pparse (s : List UInt8) : List Match × Int :=
  if s = [] then ([], 0) else
    if ((Word.parts 44 s).map pread).all pmay then (if (Word.parts 44 s).length ≤ 4 then ((Word.parts 44 s).map pread, 0) else ([], 4)) else ([], 2)
theorem pread_kind (p : List UInt8) : (pread p).1 = 1 ∨ (pread p).1 = 2 ∨ (pread p).1 = 3 ∨ (pread p).1 = 4 := by
  unfold pread
  cases cutAt [33, 61] p with
  | some q => simp
  | none =>
    cases cutAt [61] p with
    | none => simp
    | some q =>
      simp only
      split <;> simp
theorem suffix_drop {v : List UInt8} (h : Lib.hasSuffix v [42] = true) : Lib.trimSuffix v [42] ++ [42] = v := by
  have h2 := h
  unfold Lib.hasSuffix at h2
  rw [List.isSuffixOf_iff_suffix] at h2
  obtain ⟨t, rfl⟩ := h2
  unfold Lib.trimSuffix
  rw [if_pos h]
  simp
/-- A part has the text of its match. -/
theorem ptxt_read (p : List UInt8) : (ptxt (pread p)).data.toList = p := by
  unfold pread
  cases h2 : cutAt [33, 61] p with
  | some q =>
    have := cutAt_some _ _ _ h2
    show (ptxt (2, bb q.1, bb q.2)).data.toList = p
    unfold ptxt
    simp only [show ¬ ((2 : Int) = 1) from by decide, if_false, if_true]
    rw [app_list, app_list, bb_list, bb_list]
    rw [this]
    simp
  | none =>
    cases h1 : cutAt [61] p with
    | none =>
      show (ptxt (4, bb p, bb [])).data.toList = p
      unfold ptxt
      simp only [show ¬ ((4 : Int) = 1) from by decide, show ¬ ((4 : Int) = 2) from by decide, show ¬ ((4 : Int) = 3) from by decide, if_false]
      rw [bb_list]
    | some q =>
      have := cutAt_some _ _ _ h1
      simp only
      split
      · rename_i hs
        have h3 := suffix_drop hs
        unfold ptxt
        simp only [show ¬ ((3 : Int) = 1) from by decide, show ¬ ((3 : Int) = 2) from by decide, if_false, if_true]
        rw [app_list, app_list, app_list, bb_list, bb_list]
        show q.1 ++ [61] ++ Lib.trimSuffix q.2 [42] ++ [42] = p
        rw [List.append_assoc, List.append_assoc, h3, this]
      · unfold ptxt
        simp only [if_true]
        rw [app_list, app_list, bb_list, bb_list]
        rw [this]
        simp
/-- A match that may be is read from its text as it was. -/
theorem pread_txt {m : Match} (h : pmay m = true) : pread (ptxt m).data.toList = m := by
  obtain ⟨k, n, v⟩ := m
  simp only [pmay, Bool.and_eq_true] at h
  obtain ⟨hn, hv⟩ := h
  simp only [nm, vl] at hn hv
  have n1 := Word.value_mem _ 33 (Word.name_value _ hn) (by decide)
  have n2 := Word.value_mem _ 61 (Word.name_value _ hn) (by decide)
  have hvs : Word.value v.data.toList = true → (33 : UInt8) ∉ v.data.toList ∧ (42 : UInt8) ∉ v.data.toList := fun h => ⟨Word.value_mem _ 33 h (by decide), Word.value_mem _ 42 h (by decide)⟩
  have hst : ∀ x : List UInt8, (42 : UInt8) ∉ x → Lib.hasSuffix x [42] = false := by
    intro x hx
    cases hh : Lib.hasSuffix x [42] with
    | false => rfl
    | true => exact absurd (suffix_drop hh ▸ (by simp : (42 : UInt8) ∈ Lib.trimSuffix x [42] ++ [42])) hx
  unfold pval at hv
  by_cases k1 : k = 1
  · subst k1
    simp only [if_true] at hv
    obtain ⟨v1, v2⟩ := hvs hv
    have e : (ptxt (1, n, v)).data.toList = n.data.toList ++ ([61] ++ v.data.toList) := by
      unfold ptxt
      simp only [if_true]
      rw [app_list, app_list, List.append_assoc]
    rw [e]
    unfold pread
    rw [cutAt_none 33 [61] _ (by simp [n1, v1]), cutAt_app 61 [] _ _ n2]
    simp only
    rw [hst _ v2]
    simp only [Bool.false_eq_true, if_false, bb_eq]
  · by_cases k2 : k = 2
    · subst k2
      have e : (ptxt (2, n, v)).data.toList = n.data.toList ++ (33 :: [61] ++ v.data.toList) := by
        unfold ptxt
        simp only [k1, if_false, if_true]
        rw [app_list, app_list, List.append_assoc]
      rw [e]
      unfold pread
      rw [cutAt_app 33 [61] _ _ n1]
      simp only [bb_eq]
    · by_cases k3 : k = 3
      · subst k3
        simp only [k1, k2, if_false, if_true] at hv
        have v1 : (33 : UInt8) ∉ v.data.toList := by
          rw [Bool.or_eq_true] at hv
          rcases hv with hv | hv
          · rw [List.isEmpty_iff] at hv
            rw [hv]
            simp
          · exact (hvs hv).1
        have e : (ptxt (3, n, v)).data.toList = n.data.toList ++ ([61] ++ (v.data.toList ++ [42])) := by
          unfold ptxt
          simp only [k1, k2, if_false, if_true]
          rw [app_list, app_list, app_list, List.append_assoc, List.append_assoc]
        rw [e]
        unfold pread
        rw [cutAt_none 33 [61] _ (by simp [n1, v1]), cutAt_app 61 [] _ _ n2]
        have hsf : Lib.hasSuffix (v.data.toList ++ [42]) [42] = true := by
          unfold Lib.hasSuffix
          rw [List.isSuffixOf_iff_suffix]
          exact List.suffix_append _ [42]
        have htr : Lib.trimSuffix (v.data.toList ++ [42]) [42] = v.data.toList := by
          unfold Lib.trimSuffix
          rw [if_pos hsf]
          simp
        simp only [hsf, htr, if_true, bb_eq]
      · by_cases k4 : k = 4
        · subst k4
          simp only [k1, k2, k3, if_false, if_true] at hv
          rw [List.isEmpty_iff] at hv
          have e : (ptxt (4, n, v)).data.toList = n.data.toList := by
            unfold ptxt
            simp only [k1, k2, k3, if_false]
          rw [e]
          unfold pread
          rw [cutAt_none 33 [61] _ n1, cutAt_none 61 [] _ n2]
          simp only [bb_eq]
          rw [show v = bb [] from bb_inj (by rw [hv, bb_list])]
        · simp only [k1, k2, k3, k4, if_false] at hv
          cases hv
theorem ptxt_mem {m : Match} (h : pmay m = true) : (44 : UInt8) ∉ (ptxt m).data.toList := by
  obtain ⟨k, n, v⟩ := m
  simp only [pmay, Bool.and_eq_true] at h
  obtain ⟨hn, hv⟩ := h
  simp only [nm, vl] at hn hv
  have n1 := Word.value_mem _ 44 (Word.name_value _ hn) (by decide)
  have hvs : Word.value v.data.toList = true → (44 : UInt8) ∉ v.data.toList := fun h => Word.value_mem _ 44 h (by decide)
  unfold pval at hv
  unfold ptxt
  by_cases k1 : k = 1
  · subst k1
    simp only [if_true] at hv ⊢
    rw [app_list, app_list]
    simp [n1, hvs hv]
  · by_cases k2 : k = 2
    · subst k2
      simp only [k1, if_false, if_true] at hv ⊢
      rw [app_list, app_list]
      simp [n1, hvs hv]
    · by_cases k3 : k = 3
      · subst k3
        simp only [k1, k2, if_false, if_true] at hv ⊢
        have v1 : (44 : UInt8) ∉ v.data.toList := by
          rw [Bool.or_eq_true] at hv
          rcases hv with hv | hv
          · rw [List.isEmpty_iff] at hv
            rw [hv]
            simp
          · exact hvs hv
        rw [app_list, app_list, app_list]
        simp [n1, v1]
      · simp only [k1, k2, k3, if_false]
        exact n1
theorem ptxt_ne {m : Match} (h : pmay m = true) : (ptxt m).data.toList ≠ [] := by
  intro e
  have h1 := pread_txt h
  rw [e] at h1
  rw [← h1] at h
  revert h
  decide
theorem ptext_ne {l : List Match} (hl : l ≠ []) (h : l.all pmay = true) : ptext l ≠ [] := by
  cases l with
  | nil => exact absurd rfl hl
  | cons t r =>
    intro e
    unfold ptext at e
    rw [List.map_cons, Lib.join_cons] at e
    exact ptxt_ne (List.all_eq_true.1 h t (by simp)) (List.append_eq_nil_iff.1 e).1
theorem reads_txts {l : List Match} (h : l.all pmay = true) : (l.map fun m => (ptxt m).data.toList).map pread = l := by
  rw [List.map_map]
  conv => rhs; rw [← List.map_id l]
  apply List.map_congr_left
  intro m hm
  exact pread_txt (List.all_eq_true.1 h m hm)
/-- There and back. -/
theorem pparse_text {l : List Match} (h : pright l = true) : pparse (ptext l) = (l, 0) := by
  simp only [pright, Bool.and_eq_true, decide_eq_true_eq] at h
  by_cases h0 : l = []
  · subst h0
    rfl
  · have hp : Word.parts 44 (ptext l) = l.map fun m => (ptxt m).data.toList := by
      unfold ptext
      refine Word.parts_join 44 _ (by simpa using h0) ?_
      intro x hx
      obtain ⟨u, hu, rfl⟩ := List.mem_map.1 hx
      exact ptxt_mem (List.all_eq_true.1 h.2 u hu)
    unfold pparse
    rw [if_neg (ptext_ne h0 h.2), hp, reads_txts h.2, h.2, if_pos rfl, if_pos (by rw [List.length_map]; exact h.1)]
theorem pparse_ok {s : List UInt8} (h : (pparse s).2 = 0) : pright (pparse s).1 = true ∧ ptext (pparse s).1 = s := by
  unfold pparse at h ⊢
  by_cases h0 : s = []
  · rw [if_pos h0]
    subst h0
    exact ⟨rfl, rfl⟩
  · rw [if_neg h0] at h ⊢
    cases ha : ((Word.parts 44 s).map pread).all pmay
    · rw [ha] at h
      simp at h
    · rw [ha, if_pos rfl] at h
      rw [if_pos rfl]
      by_cases hl : (Word.parts 44 s).length ≤ 4
      · rw [if_pos hl]
        constructor
        · unfold pright
          rw [ha, List.length_map, decide_eq_true hl]
          rfl
        · unfold ptext
          rw [List.map_map]
          have : (Word.parts 44 s).map ((fun m => (ptxt m).data.toList) ∘ pread) = Word.parts 44 s := by
            conv => rhs; rw [← List.map_id (Word.parts 44 s)]
            apply List.map_congr_left
            intro p _
            exact ptxt_read p
          rw [this, Word.join_parts]
      · rw [if_neg hl] at h
        simp at h
theorem pparse_err {s : List UInt8} (h : (pparse s).2 ≠ 0) : (pparse s).1 = [] := by
  unfold pparse at h ⊢
  by_cases h0 : s = []
  · rw [if_pos h0]
  · rw [if_neg h0] at h ⊢
    cases ha : ((Word.parts 44 s).map pread).all pmay
    · rfl
    · rw [ha, if_pos rfl] at h
      rw [if_pos rfl]
      by_cases hl : (Word.parts 44 s).length ≤ 4
      · rw [if_pos hl] at h
        exact absurd rfl h
      · rw [if_neg hl]
theorem pparse_le (s : List UInt8) : (pparse s).1.length ≤ 4 := by
  by_cases h : (pparse s).2 = 0
  · have := (pparse_ok h).1
    simp only [pright, Bool.and_eq_true, decide_eq_true_eq] at this
    exact this.1
  · rw [pparse_err h]; exact Nat.zero_le _
theorem pread_small (p : List UInt8) : (pread p).2.1.size ≤ p.length ∧ (pread p).2.2.size ≤ p.length := by
  have hz : ∀ l : List UInt8, (bb l).size = l.length := fun l => by show l.toArray.size = _; simp
  unfold pread
  cases h2 : cutAt [33, 61] p with
  | some q =>
    have := congrArg List.length (cutAt_some _ _ _ h2)
    simp at this
    simp only [hz]
    omega
  | none =>
    cases h1 : cutAt [61] p with
    | none => simp only [hz]; simp
    | some q =>
      have := congrArg List.length (cutAt_some _ _ _ h1)
      simp at this
      simp only
      split
      · rename_i hs
        have h3 := congrArg List.length (suffix_drop hs)
        simp at h3
        simp only [hz]
        omega
      · simp only [hz]
        omega
/-- The other way. -/
theorem pfit_not (x v : ByteArray) (ok : Bool) : pfit 2 x v ok = !pfit 1 x v ok := by
  unfold pfit
  simp
theorem pfit_begins {x v : ByteArray} {ok : Bool} (k : Nat) (h : pfit 1 x v ok = true) : pfit 3 (bb (x.data.toList.take k)) v ok = true := by
  unfold pfit at h ⊢
  simp only [show ¬ ((3 : Int) = 1) from by decide, show ¬ ((3 : Int) = 2) from by decide, if_false, if_true, Bool.and_eq_true] at h ⊢
  refine ⟨h.1, ?_⟩
  have := (eqB_true v x).1 h.2
  subst this
  unfold Lib.hasPrefix
  rw [List.isPrefixOf_iff_prefix, bb_list]
  exact List.take_prefix k _
theorem pfit_has {x y v : ByteArray} {ok : Bool} (h : pfit 3 x v ok = true) : pfit 4 y v ok = true := by
  unfold pfit at h ⊢
  simp only [show ¬ ((3 : Int) = 1) from by decide, show ¬ ((3 : Int) = 2) from by decide, show ¬ ((4 : Int) = 1) from by decide, show ¬ ((4 : Int) = 2) from by decide, show ¬ ((4 : Int) = 3) from by decide, if_false, if_true, Bool.and_eq_true] at h ⊢
  exact h.1
end Go.Proofs.YtehgpibngalhfaaGreatDoor.Pk
