/- Walks: names behind by, and Right, of the program. -/
import Derived.Test.YtfohknpjlkjbbaaGreatDoorQ5
import Derived.Test.YtfohknpjlkjbbaaGreatDoorG3
namespace Go.Proofs.YtfohknpjlkjbbaaGreatDoor
open Go Go.RowKit Tg Pk Ky Qy

theorem row_take {w : World} {a : Option Addr} {c : Nat} {l : List ByteArray} (h : l ≠ [] → ∃ b o, a = some ⟨b, o, none⟩ ∧ b < w.heap.size ∧ Lies w b o l) (k : Nat) (hk : k ≤ l.length) (hc : l.length ≤ c) : Row w (.slice a k c) (l.take k) := by
  have hl : (l.take k).length = k := by rw [List.length_take]; omega
  refine ⟨a, c, by rw [hl], by omega, fun hne => ?_⟩
  have hne2 : l ≠ [] := fun e => hne (by rw [e]; simp)
  obtain ⟨b, o, ha, hb, hL⟩ := h hne2
  refine ⟨b, o, ha, hb, fun j x hx => hL j x ?_⟩
  rw [List.getElem?_take] at hx
  split at hx
  · exact hx
  · cases hx

set_option maxHeartbeats 1000000 in
theorem twice_any (v : Value) (l : List ByteArray) (w : World) (h : Row w v l) (hn : l.length ≤ 1000000) :
    Calls Tryz.prog 59 #[v] w fun e w' => e = .returned (.bool (twice l)) ∧ Below w.heap.size w w' := by
  obtain ⟨a, c, rfl, hc, hl⟩ := h
  have HL := Lib.hid hl
  clear hl
  obtain ⟨A, HA⟩ : ∃ A, Hid (twice l = A) := ⟨_, rfl⟩
  rw [HA.out]
  go_enter Tryz.func59, Tryz.ntmps59
  go_wp2
  go_loopw [7] (fun i wr => ∃ (k nq : Nat), k ≤ l.length ∧ i = .int .i64 k ∧ wr = w.drewN nq ∧ Hid (twiceTo l k = false)) (fun i _ => l.length - (intOf i).toNat)
  case atStart => exact ⟨0, 0, Nat.zero_le _, rfl, rfl, rfl⟩
  case round =>
    obtain ⟨k, nq, hk, rfl, rfl, HT⟩ := hrel
    by_cases hlt : k < l.length
    · have HN : Hid (inTo l l[k] k = false → twiceTo l (k + 1) = false) := fun h => by
        show _ = false
        rw [twiceTo_succ, HT.out, seen_in hlt, h]
        rfl
      have HF : Hid (inTo l l[k] k = true → A = true) := fun h => by
        show A = true
        rw [← HA.out, twiceTo_true (k := k) (by rw [seen_in hlt]; exact h)]
      have hrow := row_take HL.out k hk hc
      have HC : Hid (∀ nq, Calls Tryz.prog 77 #[.slice a k c, .string l[k]] (w.drewN nq) fun e w' => e = .returned (.bool (inTo l l[k] k)) ∧ w' = w.drewN nq) := fun nq => contains_any _ (l.take k) l[k] (w.drewN nq) (hrow.on (below_drewN (Below.refl _ _) nq)) (by rw [List.length_take]; omega)
      obtain ⟨b, o, rfl, hb, hL⟩ := HL.out (ne_of_lt hlt)
      have e1 := hL.at k hlt
      have i1 : (k : Int) < (l.length : Int) := by omega
      have i2 : (0 : Int) ≤ (k : Int) := by omega
      have i3 : (k : Int) ≤ (c : Int) := by omega
      generalize l[k] = x at *
      clear hL hb HL HT hrow
      generalize inTo l x k = p at *
      cases p
      · have HN2 := Lib.hid (HN.out rfl)
        clear HF HN
        go_wp2_with (first | (go_at_call 77; refine (HC.out _).mono ?_; rintro e w' ⟨rfl, hw⟩; subst hw))
        exact ⟨⟨k + 1, _, by omega, by go_num, rfl, HN2⟩, by simp [intOf]; omega⟩
      · have HF2 := Lib.hid (HF.out rfl)
        clear HF HN
        go_wp2_with (first | (go_at_call 77; refine (HC.out _).mono ?_; rintro e w' ⟨rfl, hw⟩; subst hw))
        go_ret
        exact ⟨ret_bool (HF2.out).symm, ⟨rfl, rfl, rfl, Nat.le_refl _, fun _ _ => rfl⟩⟩
    · have HE : Hid (A = false) := by
        have h1 := HT.out
        have h2 : k = l.length := by omega
        rw [h2, twiceTo_all] at h1
        show A = false
        rw [← HA.out]
        exact h1
      clear HT HL
      go_wp2_with fail
      go_ret
      exact ⟨ret_bool (HE.out).symm, ⟨rfl, rfl, rfl, Nat.le_refl _, fun _ _ => rfl⟩⟩

set_option maxHeartbeats 1000000 in
theorem checkBy_any (v : Value) (l : List ByteArray) (w : World) (h : Row w v l) (hn : l.length ≤ 1000000) (hs : ∀ x ∈ l, x.size ≤ 281474976710656) :
    Calls Tryz.prog 27 #[v] w fun e w' => e = .returned (.int .i64 (byE l)) ∧ Below w.heap.size w w' := by
  have HTw := Lib.hid (twice_any v l w h hn)
  obtain ⟨a, c, rfl, hc, hl⟩ := h
  have HL := Lib.hid hl
  have HS := Lib.hid hs
  clear hl hs
  obtain ⟨C, HC⟩ : ∃ C, Hid (byE l = C) := ⟨_, rfl⟩
  rw [HC.out]
  go_enter Tryz.func27, Tryz.ntmps27
  go_wp2
  go_loop [7] (fun i => ∃ (k : Nat), k ≤ l.length ∧ i = .int .i64 k ∧ Hid ((l.take k).all nmB = true)) (fun i => l.length - (intOf i).toNat)
  case atStart => exact ⟨0, Nat.zero_le _, rfl, rfl⟩
  case round =>
    obtain ⟨k, hk, rfl, HT⟩ := hrel
    by_cases hlt : k < l.length
    · obtain ⟨b, o, rfl, hb, hL⟩ := HL.out (ne_of_lt hlt)
      have e1 := hL.at k hlt
      have i1 : (k : Int) < (l.length : Int) := by omega
      have i2 : (0 : Int) ≤ (k : Int) := by omega
      have z1 := HS.out _ (List.getElem_mem hlt)
      have HN : Hid (nmB l[k] = true → (l.take (k + 1)).all nmB = true) := fun h => by rw [allB_next hlt HT.out]; exact h
      have HF : Hid (nmB l[k] = false → C = 2) := fun h => by
        show C = _
        rw [← HC.out]
        exact byE_form (allB_not hlt h)
      have HB : Hid (∀ W, Calls Tryz.prog 25 #[.string l[k]] W fun e w' => e = .returned (.bool (nmB l[k])) ∧ w' = W) := fun W => name_any l[k] W (by omega)
      generalize l[k] = x at *
      clear hL hb HL HT HS HTw
      generalize nmB x = p at *
      cases p
      · have HF2 := Lib.hid (HF.out rfl)
        clear HF HN
        go_wp2_with (first | (go_at_call 25; refine (HB.out _).mono ?_; rintro e w1 ⟨rfl, rfl⟩))
        go_ret
        exact ⟨ret_i (HF2.out).symm, Below.refl _ _⟩
      · have HN2 := Lib.hid (HN.out rfl)
        clear HF HN
        go_wp2_with (first | (go_at_call 25; refine (HB.out _).mono ?_; rintro e w1 ⟨rfl, rfl⟩))
        exact ⟨⟨k + 1, by omega, by go_num, HN2⟩, by simp [intOf]; omega⟩
    · have HA : Hid (l.all nmB = true) := by
        have h1 := HT.out
        rw [List.take_of_length_le (by omega)] at h1
        exact h1
      clear HT
      by_cases h4 : 4 < l.length
      · have HM := Lib.hid ((HC.out).symm.trans (byE_many HA.out h4))
        clear HA HL HS HTw
        go_wp2_with fail
        go_ret
        exact ⟨ret_i (HM.out).symm, Below.refl _ _⟩
      · have HO4 := Lib.hid ((HC.out).symm.trans (byE_twice HA.out (by omega)))
        clear HA HC HL HS
        generalize twice l = p at *
        cases p
        · have HO5 : Hid (C = 0) := HO4.out
          clear HO4
          go_wp2_with fail
          refine (HTw.out).mono ?_
          rintro e w1 ⟨rfl, d1⟩
          go_wp2_with fail
          go_ret
          exact ⟨ret_i (HO5.out).symm, d1⟩
        · have HO5 : Hid (C = 5) := HO4.out
          clear HO4
          go_wp2_with fail
          refine (HTw.out).mono ?_
          rintro e w1 ⟨rfl, d1⟩
          go_wp2_with fail
          go_ret
          exact ⟨ret_i (HO5.out).symm, d1⟩

theorem aggB_ne (a : Int) : ((aggB a).toList == ([] : List UInt8)) = !aggOk a ∧ (aggB a).toList.isEmpty = !aggOk a := by
  have h := aggW_ok a
  have hl : (aggB a).toList = aggW a := by rw [ByteArray.toList_eq]; exact bb_list _
  rw [hl]
  cases ho : aggOk a
  · rw [h.2 ho]; decide
  · have hne : aggW a ≠ [] := fun e => by rw [h.1 e] at ho; cases ho
    cases hw : aggW a with
    | nil => exact absurd hw hne
    | cons _ _ => exact ⟨rfl, rfl⟩

set_option maxHeartbeats 1000000 in
theorem qright_any (v : Value) (q : Query) (w : World) (h : QRow w v q) (hz : q.2.1.size ≤ 281474976710656) (hn : q.2.2.1.length ≤ 1000000) (hm : ∀ x ∈ q.2.2.1, x.2.1.size ≤ 281474976710656 ∧ x.2.2.size ≤ 281474976710656) (hn2 : q.2.2.2.length ≤ 1000000) (hb : ∀ x ∈ q.2.2.2, x.size ≤ 281474976710656) :
    Calls Tryz.prog 9 #[v] w fun e w' => e = .returned (.bool (qright q)) ∧ Below w.heap.size w w' := by
  obtain ⟨a, c, b, d, rfl, rm, rb⟩ := h.open
  clear h
  have HW := Lib.hid (fun W => aggWord_any q.1 W)
  have H0 : Hid (∀ W, Calls Tryz.prog 25 #[.string q.2.1] W fun e w' => e = .returned (.bool (nmB q.2.1)) ∧ w' = W) := fun W => name_any q.2.1 W (by omega)
  have H1 := Lib.hid (fun W (n : Below w.heap.size w W) => rightM_any _ q.2.2.1 W (rm.on n) hn hm)
  have H2 := Lib.hid (fun W (n : Below w.heap.size w W) => checkBy_any _ q.2.2.2 W (rb.on n) hn2 hb)
  obtain ⟨a1, a2⟩ := aggB_ne q.1
  rw [show qright q = (aggOk q.1 && (nmB q.2.1 && (pright q.2.2.1 && decide (byE q.2.2.2 = 0)))) from by unfold qright; simp only [Bool.and_assoc]]
  generalize pright q.2.2.1 = dm at *
  generalize nmB q.2.1 = dn at *
  generalize aggOk q.1 = dk at *
  generalize aggB q.1 = t at *
  clear rm rb hn hn2 hm hb hz
  cases dk
  · go_enter Tryz.func9, Tryz.ntmps9
    go_wp2_with fail
    refine (HW.out _).mono ?_
    rintro e w1 ⟨rfl, hw⟩
    have hw := hw.symm
    subst hw
    go_wp2_with fail
    go_ret
    exact ⟨rfl, aBelow _ _⟩
  · cases dn
    · go_enter Tryz.func9, Tryz.ntmps9
      go_wp2_with fail
      refine (HW.out _).mono ?_
      rintro e w1 ⟨rfl, hw⟩
      have hw := hw.symm
      subst hw
      go_wp2_with fail
      refine (H0.out _).mono ?_
      rintro e w1 ⟨rfl, hw⟩
      have hw := hw.symm
      subst hw
      go_wp2_with fail
      go_ret
      exact ⟨rfl, aBelow _ _⟩
    · cases dm
      · go_enter Tryz.func9, Tryz.ntmps9
        go_wp2_with fail
        refine (HW.out _).mono ?_
        rintro e w1 ⟨rfl, hw⟩
        have hw := hw.symm
        subst hw
        go_wp2_with fail
        refine (H0.out _).mono ?_
        rintro e w1 ⟨rfl, hw⟩
        have hw := hw.symm
        subst hw
        go_wp2_with fail
        refine (H1.out _ (aBelow _ _)).mono ?_
        rintro e w2 ⟨rfl, n2⟩
        have d2 := belowA n2
        go_wp2_with fail
        go_ret
        exact ⟨rfl, d2⟩
      · generalize byE q.2.2.2 = E at *
        by_cases g3 : E = 0
        all_goals
          have ge : (E == 0) = decide (E = 0) := by simp [g3]
          go_enter Tryz.func9, Tryz.ntmps9
          go_wp2_with fail
          refine (HW.out _).mono ?_
          rintro e w1 ⟨rfl, hw⟩
          have hw := hw.symm
          subst hw
          go_wp2_with fail
          refine (H0.out _).mono ?_
          rintro e w1 ⟨rfl, hw⟩
          have hw := hw.symm
          subst hw
          go_wp2_with fail
          refine (H1.out _ (aBelow _ _)).mono ?_
          rintro e w2 ⟨rfl, n2⟩
          have d2 := belowA n2
          have c3 := newC (i := 3) n2
          simp at c3
          clear n2
          go_wp2_with fail
          refine (H2.out _ d2).mono ?_
          rintro e w3 ⟨rfl, n3⟩
          have d3 := d2.trans (n3.mono d2.size)
          go_wp2_with fail
          go_ret
          exact ⟨by simp [g3], d3⟩
end Go.Proofs.YtfohknpjlkjbbaaGreatDoor
