/- Walks: the order of two tags, whether tags rise, whether each may be, whether they are in order: the program's and the document's. -/
import Derived.Test.YtfjbbaejeckonaaDoorT1
import Derived.Test.YtfjbbaejeckonaaDoorShelf
import Derived.Shelf.SlSortCmp.QuietGrown
namespace Go.Proofs.YtfjbbaejeckonaaDoor
open Go Go.RowKit Go.Sort Tg

theorem below_grow (W : World) (q : Nat) (os : Array Obj) : Below W.heap.size W (grow (W.drewN q) os) := by
  refine ⟨rfl, rfl, rfl, ?_, ?_⟩
  · show W.heap.size ≤ (W.heap ++ os).size
    simp
  · intro b hb
    show (W.heap ++ os)[b]? = W.heap[b]?
    rw [Array.getElem?_append_left hb]

set_option maxHeartbeats 400000 in
theorem byName_any (x y : Tag) (W : World) :
    Calls Tryd.prog 42 #[.agg #[.string x.1, .string x.2], .agg #[.string y.1, .string y.2]] W fun e w' => e = .returned (.int .i64 (cf x y)) ∧ ∃ q os', w' = grow (W.drewN q) os' := by
  have hcon := fun W' => Tryd.strings_Compare x.1 y.1 W'
  rw [show Lib.compareBytes x.1.data.toList y.1.data.toList = cf x y from rfl] at hcon
  generalize cf x y = r at hcon ⊢
  go_enter Tryd.func42, Tryd.ntmps42
  go_wp2_with (go_at_call 57; refine (hcon _).mono ?_; rintro e w' ⟨rfl, rfl⟩)
  go_ret
  exact ⟨rfl, 0, _, by rw [alloc_eq_grow, alloc_eq_grow, grow_grow]; rfl⟩

theorem cf_lt (x y : Tag) : cf x y < 0 ↔ lt x y = true := Iff.of_eq (compare_less (nm x) (nm y))
theorem mixed : Tryd.prog.follows .mixedOrders = true := by kernel_rfl

set_option maxHeartbeats 1000000 in
theorem rising_any (v : Value) (l : List Tag) (w : World) (h : TRow w v l) (hn : l.length ≤ 1000000) :
    Calls Tryd.prog 43 #[v] w fun e w' => e = .returned (.bool (rising l)) ∧ Below w.heap.size w w' := by
  obtain ⟨a, c, rfl, hc, hl⟩ := h
  have HL := Lib.hid hl
  clear hl
  obtain ⟨A, HA⟩ : ∃ A, Hid (rising l = A) := ⟨_, rfl⟩
  rw [HA.out]
  go_enter Tryd.func43, Tryd.ntmps43
  go_wp2
  go_loopw [3] (fun i wr => ∃ (k : Nat), 1 ≤ k ∧ k ≤ l.length + 1 ∧ i = .int .i64 k ∧ Hid (rising (l.take k) = true) ∧ Below w.heap.size w wr) (fun i _ => l.length + 1 - (intOf i).toNat)
  case atStart =>
    refine ⟨1, Nat.le_refl _, by omega, rfl, ?_, Below.refl _ _⟩
    show rising (l.take 1) = true
    cases l with
    | nil => exact rising_nil
    | cons x r => exact rising_one x
  case round =>
    obtain ⟨k, hk1, hk, rfl, HT, hbl⟩ := hrel
    by_cases hlt : k < l.length
    · obtain ⟨b, o, rfl, hb, hL⟩ := HL.out (ne_of_lt hlt)
      have hb' : b < wr.heap.size := Nat.lt_of_lt_of_le hb hbl.size
      have hL' := hL.on hb hbl
      obtain ⟨j, hj⟩ : ∃ j, j = k - 1 := ⟨_, rfl⟩
      have hjl : j < l.length := by omega
      have hjk : (k : Int) - 1 = (j : Int) := by omega
      obtain ⟨e1, e2⟩ := hL' j hjl
      obtain ⟨e3, e4⟩ := hL' k hlt
      have f1 := fun n os => cell_grown (a := ⟨b, o + j * 2, none⟩) hb' e1 n os
      have f2 := fun n os => cell_grown (a := ⟨b, o + j * 2 + 1, none⟩) hb' e2 n os
      have f3 := fun n os => cell_grown (a := ⟨b, o + k * 2, none⟩) hb' e3 n os
      have f4 := fun n os => cell_grown (a := ⟨b, o + k * 2 + 1, none⟩) hb' e4 n os
      have i1 : (k : Int) < (l.length : Int) := by omega
      have i2 : (0 : Int) ≤ (k : Int) := by omega
      have i3 : (j : Int) < (l.length : Int) := by omega
      have i5 : (0 : Int) ≤ (j : Int) := by omega
      have i4 : IntKind.i64.wrap (j : Int) = (j : Int) := by rw [IntKind.wrap_i64]; omega
      have mx := mixed
      have HR := Lib.hid (rising_take l k (by omega) hlt)
      have ej : l[k - 1] = l[j] := by subst hj; rfl
      rw [ej] at HR
      have HC := Lib.hid (cf_lt l[j] l[k])
      have HB := Lib.hid (byName_any l[j] l[k])
      clear ej
      generalize l[j] = x at *
      generalize l[k] = y at *
      clear e1 e2 e3 e4 hL hL' HL hj
      by_cases hc : cf x y < 0
      · have HN : Hid (rising (l.take (k + 1)) = true) := by
          show _ = _
          rw [HR.out, HT.out, HC.out.1 hc]; rfl
        generalize cf x y = z at *
        go_wp2_with fail
        go_quiet_grown (first | (go_at_call 42; refine Calls.grown_of (HB.out _)))
        go_wp2_with fail
        exact ⟨⟨k + 1, by omega, by omega, by go_num, HN, hbl.trans ((below_grow wr nq osq).mono hbl.size)⟩, by simp [intOf]; omega⟩
      · have HN : Hid (A = false) := by
          show A = false
          rw [← HA.out]
          refine rising_of_take (k := k + 1) ?_
          rw [HR.out, HT.out]
          cases hlt : lt x y
          · rfl
          · exact absurd (HC.out.2 hlt) hc
        generalize cf x y = z at *
        go_wp2_with fail
        go_quiet_grown (first | (go_at_call 42; refine Calls.grown_of (HB.out _)))
        go_wp2_with fail
        go_ret
        exact ⟨ret_bool (HN.out).symm, hbl.trans ((below_grow wr nq osq).mono hbl.size)⟩
    · have HE : Hid (A = true) := by
        have h1 := HT.out
        rw [List.take_of_length_le (by omega)] at h1
        show A = true
        rw [← HA.out]
        exact h1
      go_wp2_with fail
      go_ret
      exact ⟨ret_bool (HE.out).symm, hbl⟩

theorem all_next {l : List Tag} {k : Nat} (hk : k < l.length) (h : (l.take k).all may = true) : (l.take (k + 1)).all may = may l[k] := by
  rw [List.take_succ_eq_append_getElem hk, List.all_append, h]
  simp
theorem all_not {l : List Tag} {k : Nat} (hk : k < l.length) (h : may l[k] = false) : l.all may = false := by
  cases ha : l.all may
  · rfl
  · rw [List.all_eq_true.1 ha _ (List.getElem_mem hk)] at h
    cases h

set_option maxHeartbeats 1000000 in
theorem formed_any (v : Value) (l : List Tag) (w : World) (h : TRow w v l) (hn : l.length ≤ 1000000) (hs : ∀ x ∈ l, x.1.size ≤ 281474976710656 ∧ x.2.size ≤ 281474976710656) :
    Calls Tryd.prog 39 #[v] w fun e w' => e = .returned (.bool (l.all may)) ∧ Below w.heap.size w w' := by
  obtain ⟨a, c, rfl, hc, hl⟩ := h
  have HL := Lib.hid hl
  have HS := Lib.hid hs
  clear hl hs
  obtain ⟨A, HA⟩ : ∃ A, Hid (l.all may = A) := ⟨_, rfl⟩
  rw [HA.out]
  go_enter Tryd.func39, Tryd.ntmps39
  go_wp2
  go_loopw [7] (fun i wr => ∃ (k : Nat), k ≤ l.length ∧ i = .int .i64 k ∧ Hid ((l.take k).all may = true) ∧ Below w.heap.size w wr) (fun i _ => l.length - (intOf i).toNat)
  case atStart => exact ⟨0, Nat.zero_le _, rfl, rfl, Below.refl _ _⟩
  case round =>
    obtain ⟨k, hk, rfl, HT, hbl⟩ := hrel
    by_cases hlt : k < l.length
    · obtain ⟨b, o, rfl, hb, hL⟩ := HL.out (ne_of_lt hlt)
      obtain ⟨e1, e2⟩ := (hL.on hb hbl) k hlt
      have i1 : (k : Int) < (l.length : Int) := by omega
      have i2 : (0 : Int) ≤ (k : Int) := by omega
      obtain ⟨z1, z2⟩ := HS.out _ (List.getElem_mem hlt)
      have HN : Hid (may l[k] = true → (l.take (k + 1)).all may = true) := fun h => by rw [all_next hlt HT.out]; exact h
      have HF : Hid (may l[k] = false → A = false) := fun h => by
        show A = false
        rw [← HA.out]
        exact all_not hlt h
      have HM : Hid (may l[k] = (Word.name (l[k]).1.data.toList && Word.value (l[k]).2.data.toList)) := rfl
      have H1 := fun W => name_any (l[k]).1 W (by omega)
      have H2 := fun W => value_any (l[k]).2 W (by omega)
      generalize l[k] = x at *
      generalize Word.name x.1.data.toList = p at *
      generalize Word.value x.2.data.toList = q at *
      have H1 := Lib.hid H1
      have H2 := Lib.hid H2
      clear hL hb HL HT HS
      have hz := hbl.size
      cases p
      · have HF2 := Lib.hid (HF.out HM.out)
        clear HF HN HM H2
        go_wp2_with (first
          | (go_at_call 21; refine (H1.out _).mono ?_; rintro e w' ⟨rfl, rfl⟩))
        go_ret
        exact ⟨ret_bool (HF2.out).symm, hbl.alloc hz _⟩
      · cases q
        · have HF2 := Lib.hid (HF.out HM.out)
          clear HF HN HM
          go_wp2_with (first
            | (go_at_call 21; refine (H1.out _).mono ?_; rintro e w' ⟨rfl, rfl⟩)
            | (go_at_call 54; refine (H2.out _).mono ?_; rintro e w' ⟨rfl, rfl⟩))
          go_ret
          exact ⟨ret_bool (HF2.out).symm, hbl.alloc hz _⟩
        · have HN2 := Lib.hid (HN.out HM.out)
          clear HF HN HM
          go_wp2_with (first
            | (go_at_call 21; refine (H1.out _).mono ?_; rintro e w' ⟨rfl, rfl⟩)
            | (go_at_call 54; refine (H2.out _).mono ?_; rintro e w' ⟨rfl, rfl⟩))
          exact ⟨⟨k + 1, by omega, by go_num, HN2, hbl.alloc hz _⟩, by simp [intOf]; omega⟩
    · have HE : Hid (A = true) := by
        have h1 := HT.out
        rw [List.take_of_length_le (by omega)] at h1
        show A = true
        rw [← HA.out]
        exact h1
      go_wp2_with fail
      go_ret
      exact ⟨ret_bool (HE.out).symm, hbl⟩

set_option maxHeartbeats 400000 in
theorem may_any (x : Tag) (W : World) (h1 : x.1.size ≤ 281474976710656) (h2 : x.2.size ≤ 281474976710656) :
    Calls Tryd.prog 46 #[.agg #[.string x.1, .string x.2]] W fun e w' => e = .returned (.bool (may x)) ∧ ∃ q os', w' = grow (W.drewN q) os' := by
  have H1 := fun W => refName_any x.1 W (by omega)
  have H2 := fun W => refValue_any x.2 W (by omega)
  rw [show may x = (Word.name x.1.data.toList && Word.value x.2.data.toList) from rfl]
  generalize Word.name x.1.data.toList = p at *
  generalize Word.value x.2.data.toList = q at *
  have H1 := Lib.hid H1
  have H2 := Lib.hid H2
  cases p
  · go_enter Tryd.func46, Tryd.ntmps46
    go_wp2_with (first
      | (go_at_call 23; refine (H1.out _).mono ?_; rintro e w' ⟨rfl, rfl⟩))
    go_ret
    exact ⟨rfl, 0, _, by rw [alloc_eq_grow]; rfl⟩
  · go_enter Tryd.func46, Tryd.ntmps46
    go_wp2_with (first
      | (go_at_call 23; refine (H1.out _).mono ?_; rintro e w' ⟨rfl, rfl⟩)
      | (go_at_call 58; refine (H2.out _).mono ?_; rintro e w' ⟨rfl, rfl⟩))
    go_ret
    exact ⟨by simp, 0, _, by rw [alloc_eq_grow]; rfl⟩

set_option maxHeartbeats 400000 in
theorem right_any (v : Value) (l : List Tag) (w : World) (h : TRow w v l) (hn : l.length ≤ 1000000) (hs : ∀ x ∈ l, x.1.size ≤ 281474976710656 ∧ x.2.size ≤ 281474976710656) :
    Calls Tryd.prog 25 #[v] w fun e w' => e = .returned (.bool (right l)) ∧ Below w.heap.size w w' := by
  have H1 := formed_any v l w h hn hs
  have H2 := fun w1 (n1 : Below w.heap.size w w1) => rising_any v l w1 (h.on n1) hn
  rw [show right l = (l.all may && decide (l.length ≤ 4) && rising l) from rfl]
  obtain ⟨a, c, rfl, hc, _⟩ := h
  generalize l.all may = p at *
  generalize rising l = q at *
  have H1 := Lib.hid H1
  have H2 := Lib.hid H2
  cases p
  · go_enter Tryd.func25, Tryd.ntmps25
    go_wp2_with (first
      | (go_at_call 39; refine (H1.out).mono ?_; rintro e w1 ⟨rfl, n1⟩))
    go_ret
    exact ⟨rfl, n1⟩
  · by_cases h4 : l.length ≤ 4
    · rw [decide_eq_true h4]
      go_enter Tryd.func25, Tryd.ntmps25
      go_wp2_with (first
        | (go_at_call 39; refine (H1.out).mono ?_; rintro e w1 ⟨rfl, n1⟩)
        | (go_at_call 43; refine (H2.out _ n1).mono ?_; rintro e w2 ⟨rfl, n2⟩))
      go_ret
      exact ⟨by simp, n1.trans (n2.mono n1.size)⟩
    · rw [decide_eq_false h4]
      go_enter Tryd.func25, Tryd.ntmps25
      go_wp2_with (first
        | (go_at_call 39; refine (H1.out).mono ?_; rintro e w1 ⟨rfl, n1⟩))
      go_ret
      exact ⟨by simp, n1⟩
end Go.Proofs.YtfjbbaejeckonaaDoor
