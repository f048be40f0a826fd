/- Walks: whether a match may be, whether matches may be: the program's and the document's. -/
import Derived.Test.YtfohknpjlkjbbaaGreatDoorP1
namespace Go.Proofs.YtfohknpjlkjbbaaGreatDoor
open Go Go.RowKit Tg Pk

theorem empty_in (v : ByteArray) (h : v.data.toList.isEmpty = true) : (v.toList == ([] : List UInt8)) = true ∧ v.toList.isEmpty = true ∧ v.toList = [] := by
  rw [ByteArray.toList_eq]
  rw [List.isEmpty_iff] at h
  rw [h]
  exact ⟨rfl, rfl, rfl⟩
theorem empty_not (v : ByteArray) (h : v.data.toList.isEmpty = false) : (v.toList == ([] : List UInt8)) = false ∧ v.toList.isEmpty = false := by
  rw [ByteArray.toList_eq]
  cases hx : v.data.toList with
  | nil => rw [hx] at h; cases h
  | cons a r => exact ⟨rfl, rfl⟩
theorem keepC {W w2 : World} {b off : Nat} {x : Option Value} (hb : Below W.heap.size W w2) (h : W.cell? ⟨b, off, none⟩ = x) (hB : b < W.heap.size) : w2.cell? ⟨b, off, none⟩ = x := by rw [hb.cell (p := ⟨b, off, none⟩) hB]; exact h
theorem belowA {W w2 : World} {o : Obj} (hb : Below (W.alloc o).heap.size (W.alloc o) w2) : Below W.heap.size W w2 := ((Below.refl _ _).alloc (Nat.le_refl _) _).trans (hb.mono (by simp))
theorem belowA2 {W w2 : World} {o1 o2 : Obj} (hb : Below ((W.alloc o1).alloc o2).heap.size ((W.alloc o1).alloc o2) w2) : Below W.heap.size W w2 := belowA (belowA hb)
theorem aBelow (W : World) (o : Obj) : Below W.heap.size W (W.alloc o) := (Below.refl _ _).alloc (Nat.le_refl _) _
theorem aBelow2 (W : World) (o1 o2 : Obj) : Below W.heap.size W ((W.alloc o1).alloc o2) := belowA (aBelow _ _)
theorem newC {W w2 : World} {c : Array Value} {t : TypeId} {i : Nat} (hb : Below (W.alloc (.cells c t)).heap.size (W.alloc (.cells c t)) w2) : w2.cell? ⟨W.heap.size, i, none⟩ = c[i]? :=
  keepC hb (by simp) (by simp)
theorem pval1 (v : List UInt8) : pval 1 v = Word.value v := by unfold pval; simp
theorem pval2 (v : List UInt8) : pval 2 v = Word.value v := by unfold pval; simp
theorem pval3 (v : List UInt8) : pval 3 v = (v.isEmpty || Word.value v) := by unfold pval; simp
theorem pval4 (v : List UInt8) : pval 4 v = v.isEmpty := by unfold pval; simp
theorem pval5 (k : Int) (v : List UInt8) (h1 : ¬ k = 1) (h2 : ¬ k = 2) (h3 : ¬ k = 3) (h4 : ¬ k = 4) : pval k v = false := by unfold pval; simp [h1, h2, h3, h4]
theorem kinds (k : Int) : k = 1 ∨ k = 2 ∨ k = 3 ∨ k = 4 ∨ (¬ k = 1 ∧ ¬ k = 2 ∧ ¬ k = 3 ∧ ¬ k = 4) := by omega

set_option maxHeartbeats 1000000 in
theorem rightValue_any (k : Int) (n v : ByteArray) (W : World) (h2 : v.size ≤ 281474976710656) :
    Calls Tryz.prog 81 #[.agg #[.int .i64 k, .string n, .string v]] W fun e w' => e = .returned (.bool (pval k v.data.toList)) ∧ Below W.heap.size W w' := by
  have H2 := fun W => value_any v W (by omega)
  rcases kinds k with rfl | rfl | rfl | rfl | ⟨k1, k2, k3, k4⟩
  · rw [pval1]
    generalize Word.value v.data.toList = q at *
    have H2 := Lib.hid H2
    go_enter Tryz.func81, Tryz.ntmps81
    go_wp2_with (first
      | (go_at_call 98; refine (H2.out _).mono ?_; rintro e w' ⟨rfl, rfl⟩))
    go_ret
    exact ⟨by simp, aBelow _ _⟩
  · rw [pval2]
    generalize Word.value v.data.toList = q at *
    have H2 := Lib.hid H2
    go_enter Tryz.func81, Tryz.ntmps81
    go_wp2_with (first
      | (go_at_call 98; refine (H2.out _).mono ?_; rintro e w' ⟨rfl, rfl⟩))
    go_ret
    exact ⟨by simp, aBelow _ _⟩
  · rw [pval3]
    generalize Word.value v.data.toList = q at *
    have H2 := Lib.hid H2
    cases he : v.data.toList.isEmpty
    · obtain ⟨y1, y2⟩ := empty_not v he
      clear he
      go_enter Tryz.func81, Tryz.ntmps81
      go_wp2_with (first
        | (go_at_call 98; refine (H2.out _).mono ?_; rintro e w' ⟨rfl, rfl⟩))
      go_ret
      exact ⟨by simp, aBelow _ _⟩
    · obtain ⟨y1, y2, y3⟩ := empty_in v he
      clear he
      go_enter Tryz.func81, Tryz.ntmps81
      go_wp2_with fail
      go_ret
      exact ⟨by simp, aBelow _ _⟩
  · rw [pval4]
    clear H2
    cases he : v.data.toList.isEmpty
    · obtain ⟨y1, y2⟩ := empty_not v he
      clear he
      go_enter Tryz.func81, Tryz.ntmps81
      go_wp2_with fail
      go_ret
      exact ⟨by simp, aBelow _ _⟩
    · obtain ⟨y1, y2, y3⟩ := empty_in v he
      clear he
      go_enter Tryz.func81, Tryz.ntmps81
      go_wp2_with fail
      go_ret
      exact ⟨by simp, aBelow _ _⟩
  · rw [pval5 k _ k1 k2 k3 k4]
    clear H2
    go_enter Tryz.func81, Tryz.ntmps81
    go_wp2_with fail
    go_ret
    exact ⟨by simp, aBelow _ _⟩
set_option maxHeartbeats 1000000 in
theorem mayM_any (m : Match) (W : World) (h1 : m.2.1.size ≤ 281474976710656) (h2 : m.2.2.size ≤ 281474976710656) :
    Calls Tryz.prog 62 #[.agg #[.int .i64 m.1, .string m.2.1, .string m.2.2]] W fun e w' => e = .returned (.bool (pmay m)) ∧ Below W.heap.size W w' := by
  obtain ⟨k, n, v⟩ := m
  dsimp only at *
  have H1 := fun W => refName_any n W (by omega)
  have H2 := fun W => refValue_any v W (by omega)
  rw [show pmay (k, n, v) = (Word.name n.data.toList && pval k v.data.toList) from rfl]
  generalize Word.name n.data.toList = p at *
  have H1 := Lib.hid H1
  cases p
  · clear H2
    go_enter Tryz.func62, Tryz.ntmps62
    go_wp2_with (first
      | (go_at_call 28; refine (H1.out _).mono ?_; rintro e w' ⟨rfl, rfl⟩))
    go_ret
    exact ⟨rfl, aBelow _ _⟩
  rw [Bool.true_and]
  rcases kinds k with rfl | rfl | rfl | rfl | ⟨k1, k2, k3, k4⟩
  · rw [pval1]
    generalize Word.value v.data.toList = q at *
    have H2 := Lib.hid H2
    go_enter Tryz.func62, Tryz.ntmps62
    go_wp2_with (first
      | (go_at_call 28; refine (H1.out _).mono ?_; rintro e w' ⟨rfl, rfl⟩)
      | (go_at_call 82; refine (H2.out _).mono ?_; rintro e w' ⟨rfl, rfl⟩))
    go_ret
    exact ⟨by simp, aBelow _ _⟩
  · rw [pval2]
    generalize Word.value v.data.toList = q at *
    have H2 := Lib.hid H2
    go_enter Tryz.func62, Tryz.ntmps62
    go_wp2_with (first
      | (go_at_call 28; refine (H1.out _).mono ?_; rintro e w' ⟨rfl, rfl⟩)
      | (go_at_call 82; refine (H2.out _).mono ?_; rintro e w' ⟨rfl, rfl⟩))
    go_ret
    exact ⟨by simp, aBelow _ _⟩
  · rw [pval3]
    generalize Word.value v.data.toList = q at *
    have H2 := Lib.hid H2
    cases he : v.data.toList.isEmpty
    · obtain ⟨y1, y2⟩ := empty_not v he
      clear he
      go_enter Tryz.func62, Tryz.ntmps62
      go_wp2_with (first
        | (go_at_call 28; refine (H1.out _).mono ?_; rintro e w' ⟨rfl, rfl⟩)
        | (go_at_call 82; refine (H2.out _).mono ?_; rintro e w' ⟨rfl, rfl⟩))
      go_ret
      exact ⟨by simp, aBelow _ _⟩
    · obtain ⟨y1, y2, y3⟩ := empty_in v he
      clear he
      go_enter Tryz.func62, Tryz.ntmps62
      go_wp2_with (first
        | (go_at_call 28; refine (H1.out _).mono ?_; rintro e w' ⟨rfl, rfl⟩))
      go_ret
      exact ⟨by simp, aBelow _ _⟩
  · rw [pval4]
    clear H2
    cases he : v.data.toList.isEmpty
    · obtain ⟨y1, y2⟩ := empty_not v he
      clear he
      go_enter Tryz.func62, Tryz.ntmps62
      go_wp2_with (first
        | (go_at_call 28; refine (H1.out _).mono ?_; rintro e w' ⟨rfl, rfl⟩))
      go_ret
      exact ⟨by simp, aBelow _ _⟩
    · obtain ⟨y1, y2, y3⟩ := empty_in v he
      clear he
      go_enter Tryz.func62, Tryz.ntmps62
      go_wp2_with (first
        | (go_at_call 28; refine (H1.out _).mono ?_; rintro e w' ⟨rfl, rfl⟩))
      go_ret
      exact ⟨by simp, aBelow _ _⟩
  · rw [pval5 k _ k1 k2 k3 k4]
    clear H2
    go_enter Tryz.func62, Tryz.ntmps62
    go_wp2_with (first
      | (go_at_call 28; refine (H1.out _).mono ?_; rintro e w' ⟨rfl, rfl⟩))
    go_ret
    exact ⟨by simp, aBelow _ _⟩
theorem allM_next {l : List Match} {k : Nat} (hk : k < l.length) (h : (l.take k).all pmay = true) : (l.take (k + 1)).all pmay = pmay l[k] := by
  rw [List.take_succ_eq_append_getElem hk, List.all_append, h]
  simp
theorem allM_not {l : List Match} {k : Nat} (hk : k < l.length) (h : pmay l[k] = false) : l.all pmay = false := by
  cases ha : l.all pmay
  · rfl
  · rw [List.all_eq_true.1 ha _ (List.getElem_mem hk)] at h
    cases h

set_option maxHeartbeats 1000000 in
theorem formedM_any (v : Value) (l : List Match) (w : World) (h : MRow w v l) (hn : l.length ≤ 1000000) (hs : ∀ x ∈ l, x.2.1.size ≤ 281474976710656 ∧ x.2.2.size ≤ 281474976710656) :
    Calls Tryz.prog 58 #[v] w fun e w' => e = .returned (.bool (l.all pmay)) ∧ Below w.heap.size w w' := by
  obtain ⟨a, c, rfl, hc, hl⟩ := h
  have HL := Lib.hid hl
  have HS := Lib.hid hs
  clear hl hs
  obtain ⟨A, HA⟩ : ∃ A, Hid (l.all pmay = A) := ⟨_, rfl⟩
  rw [HA.out]
  go_enter Tryz.func58, Tryz.ntmps58
  go_wp2
  go_loopw [7] (fun i wr => ∃ (k : Nat), k ≤ l.length ∧ i = .int .i64 k ∧ Hid ((l.take k).all pmay = true) ∧ Below w.heap.size w wr) (fun i _ => l.length - (intOf i).toNat)
  case atStart => exact ⟨0, Nat.zero_le _, rfl, rfl, Below.refl _ _⟩
  case round =>
    obtain ⟨k, hk, rfl, HT, hbl⟩ := hrel
    by_cases hlt : k < l.length
    · obtain ⟨b, o, rfl, hb, hL⟩ := HL.out (ne_of_lt hlt)
      obtain ⟨e0, e1, e2⟩ := (hL.on hb hbl) k hlt
      have i1 : (k : Int) < (l.length : Int) := by omega
      have i2 : (0 : Int) ≤ (k : Int) := by omega
      obtain ⟨z1, z2⟩ := HS.out _ (List.getElem_mem hlt)
      have HN : Hid (pmay l[k] = true → (l.take (k + 1)).all pmay = true) := fun h => by rw [allM_next hlt HT.out]; exact h
      have HF : Hid (pmay l[k] = false → A = false) := fun h => by
        show A = false
        rw [← HA.out]
        exact allM_not hlt h
      have HM : Hid (pmay l[k] = (Word.name (l[k]).2.1.data.toList && pval (l[k]).1 (l[k]).2.2.data.toList)) := rfl
      have H1 := fun W => name_any (l[k]).2.1 W (by omega)
      have H2 := fun W => rightValue_any (l[k]).1 (l[k]).2.1 (l[k]).2.2 W (by omega)
      generalize l[k] = x at *
      generalize Word.name x.2.1.data.toList = p at *
      generalize pval x.1 x.2.2.data.toList = q at *
      have H1 := Lib.hid H1
      have H2 := Lib.hid H2
      clear hL hb HL HT HS
      have hz := hbl.size
      cases p
      · have HF2 := Lib.hid (HF.out HM.out)
        clear HF HN HM H2
        go_wp2_with (first
          | (go_at_call 25; refine (H1.out _).mono ?_; rintro e w' ⟨rfl, rfl⟩))
        go_ret
        exact ⟨ret_bool (HF2.out).symm, hbl.alloc hz _⟩
      · cases q
        · have HF2 := Lib.hid (HF.out HM.out)
          clear HF HN HM
          go_wp2_with (first
            | (go_at_call 25; refine (H1.out _).mono ?_; rintro e w' ⟨rfl, rfl⟩)
            | (go_at_call 81; refine (H2.out _).mono ?_; rintro e w2 ⟨rfl, n2⟩))
          go_ret
          exact ⟨ret_bool (HF2.out).symm, (hbl.alloc hz _).trans (n2.mono (by simp; omega))⟩
        · have HN2 := Lib.hid (HN.out HM.out)
          clear HF HN HM
          go_wp2_with (first
            | (go_at_call 25; refine (H1.out _).mono ?_; rintro e w' ⟨rfl, rfl⟩)
            | (go_at_call 81; refine (H2.out _).mono ?_; rintro e w2 ⟨rfl, n2⟩))
          exact ⟨⟨k + 1, by omega, by go_num, HN2, (hbl.alloc hz _).trans (n2.mono (by simp; omega))⟩, by simp [intOf]; omega⟩
    · have HE : Hid (A = true) := by
        have h1 := HT.out
        rw [List.take_of_length_le (by omega)] at h1
        show A = true
        rw [← HA.out]
        exact h1
      go_wp2_with fail
      go_ret
      exact ⟨ret_bool (HE.out).symm, hbl⟩

set_option maxHeartbeats 400000 in
theorem rightM_any (v : Value) (l : List Match) (w : World) (h : MRow w v l) (hn : l.length ≤ 1000000) (hs : ∀ x ∈ l, x.2.1.size ≤ 281474976710656 ∧ x.2.2.size ≤ 281474976710656) :
    Calls Tryz.prog 26 #[v] w fun e w' => e = .returned (.bool (pright l)) ∧ Below w.heap.size w w' := by
  have H1 := formedM_any v l w h hn hs
  rw [show pright l = (decide (l.length ≤ 4) && l.all pmay) from rfl]
  obtain ⟨a, c, rfl, hc, _⟩ := h
  generalize l.all pmay = p at *
  have H1 := Lib.hid H1
  by_cases h4 : l.length ≤ 4
  · rw [decide_eq_true h4]
    go_enter Tryz.func26, Tryz.ntmps26
    go_wp2_with (first
      | (go_at_call 58; refine (H1.out).mono ?_; rintro e w1 ⟨rfl, n1⟩))
    go_ret
    exact ⟨by simp, n1⟩
  · rw [decide_eq_false h4]
    go_enter Tryz.func26, Tryz.ntmps26
    go_wp2_with fail
    go_ret
    exact ⟨by simp, Below.refl _ _⟩

set_option maxHeartbeats 1000000 in
theorem refRightM_any (v : Value) (l : List Match) (w : World) (h : MRow w v l) (hn : l.length ≤ 1000000) (hs : ∀ x ∈ l, x.2.1.size ≤ 281474976710656 ∧ x.2.2.size ≤ 281474976710656) :
    Calls Tryz.prog 29 #[v] w fun e w' => e = .returned (.bool (pright l)) ∧ Below w.heap.size w w' := by
  obtain ⟨a, c, rfl, hc, hl⟩ := h
  have HL := Lib.hid hl
  have HS := Lib.hid hs
  clear hl hs
  obtain ⟨A, HA⟩ : ∃ A, Hid (pright l = A) := ⟨_, rfl⟩
  rw [HA.out]
  go_enter Tryz.func29, Tryz.ntmps29
  go_wp2
  go_loopw [3] (fun i wr => ∃ (k : Nat), k ≤ l.length ∧ i = .int .i64 k ∧ Hid ((l.take k).all pmay = true) ∧ Below w.heap.size w wr) (fun i _ => l.length - (intOf i).toNat)
  case atStart => exact ⟨0, Nat.zero_le _, rfl, rfl, Below.refl _ _⟩
  case round =>
    obtain ⟨k, hk, rfl, HT, hbl⟩ := hrel
    by_cases hlt : k < l.length
    · obtain ⟨b, o, rfl, hb, hL⟩ := HL.out (ne_of_lt hlt)
      obtain ⟨e0, e1, e2⟩ := (hL.on hb hbl) k hlt
      have i1 : (k : Int) < (l.length : Int) := by omega
      have i2 : (0 : Int) ≤ (k : Int) := by omega
      obtain ⟨z1, z2⟩ := HS.out _ (List.getElem_mem hlt)
      have HN : Hid (pmay l[k] = true → (l.take (k + 1)).all pmay = true) := fun h => by rw [allM_next hlt HT.out]; exact h
      have HF : Hid (pmay l[k] = false → A = false) := fun h => by
        show A = false
        rw [← HA.out]
        unfold pright
        rw [allM_not hlt h]
        simp
      have H1 := fun W => mayM_any l[k] W z1 z2
      generalize l[k] = x at *
      generalize pmay x = p at *
      have H1 := Lib.hid H1
      clear hL hb HL HT HS
      cases p
      · have HF2 := Lib.hid (HF.out rfl)
        clear HF HN
        go_wp2_with (first
          | (go_at_call 62; refine (H1.out _).mono ?_; rintro e w2 ⟨rfl, n2⟩))
        go_ret
        exact ⟨ret_bool (HF2.out).symm, hbl.trans (n2.mono hbl.size)⟩
      · have HN2 := Lib.hid (HN.out rfl)
        clear HF HN
        go_wp2_with (first
          | (go_at_call 62; refine (H1.out _).mono ?_; rintro e w2 ⟨rfl, n2⟩))
        exact ⟨⟨k + 1, by omega, by go_num, HN2, hbl.trans (n2.mono hbl.size)⟩, by simp [intOf]; omega⟩
    · have HE : Hid (A = decide (l.length ≤ 4)) := by
        have h1 := HT.out
        rw [List.take_of_length_le (by omega)] at h1
        show A = _
        rw [← HA.out]
        unfold pright
        rw [h1]
        simp
      go_wp2_with fail
      go_ret
      exact ⟨ret_bool (by rw [HE.out]; simp; omega), hbl⟩
end Go.Proofs.YtfohknpjlkjbbaaGreatDoor
