/- Walks: whether tags fit matches: the program's and the document's. -/
import Derived.Test.YtfohknpjlkjbbaaGreatDoorP5
namespace Go.Proofs.YtfohknpjlkjbbaaGreatDoor
open Go Go.RowKit Tg Pk

theorem fits_next {t : List Tag} {l : List Match} {k : Nat} (hk : k < l.length) (h : pfits t (l.take k) = true) : pfits t (l.take (k + 1)) = pone t l[k] := by
  unfold pfits at h ⊢
  rw [List.take_succ_eq_append_getElem hk, List.all_append, h]
  simp
theorem fits_not {t : List Tag} {l : List Match} {k : Nat} (hk : k < l.length) (h : pone t l[k] = false) : pfits t l = false := by
  unfold pfits
  cases ha : l.all (pone t)
  · rfl
  · rw [List.all_eq_true.1 ha _ (List.getElem_mem hk)] at h
    cases h

set_option maxHeartbeats 1000000 in
theorem fitsM_any (tv v : Value) (t : List Tag) (l : List Match) (w : World) (ht : TRow w tv t) (h : MRow w v l) (hn : l.length ≤ 1000000) (hm : t.length ≤ 1000000) :
    Calls Tryz.prog 47 #[tv, v] w fun e w' => e = .returned (.bool (pfits t l)) ∧ Below w.heap.size w w' := by
  obtain ⟨a, c, rfl, hc, hl⟩ := h
  have HL := Lib.hid hl
  have HTR := Lib.hid ht
  clear hl ht
  obtain ⟨A, HA⟩ : ∃ A, Hid (pfits t l = A) := ⟨_, rfl⟩
  rw [HA.out]
  go_enter Tryz.func47, Tryz.ntmps47
  go_wp2
  go_loopw [9] (fun i wr => ∃ (k : Nat), k ≤ l.length ∧ i = .int .i64 k ∧ Hid (pfits t (l.take k) = true) ∧ Below w.heap.size w wr) (fun i _ => l.length - (intOf i).toNat)
  case atStart => exact ⟨0, Nat.zero_le _, rfl, rfl, Below.refl _ _⟩
  case round =>
    obtain ⟨k, hk, rfl, HT, hbl⟩ := hrel
    by_cases hlt : k < l.length
    · obtain ⟨b, o, rfl, hb, hL⟩ := HL.out (ne_of_lt hlt)
      obtain ⟨e0, e1, e2⟩ := (hL.on hb hbl) k hlt
      have i1 : (k : Int) < (l.length : Int) := by omega
      have i2 : (0 : Int) ≤ (k : Int) := by omega
      have HN : Hid (pone t l[k] = true → pfits t (l.take (k + 1)) = true) := fun h => by rw [fits_next hlt HT.out]; exact h
      have HF : Hid (pone t l[k] = false → A = false) := fun h => by
        show A = false
        rw [← HA.out]
        exact fits_not hlt h
      have hz := hbl.size
      have hrow := fun o => HTR.out.on (hbl.alloc hz o)
      have H1 := Lib.hid (fun o => ask_any l[k] tv t _ (hrow o) hm)
      generalize l[k] = x at *
      have H2 := Lib.hid (fun W => askFits_any x.1 x.2.1 x.2.2 (find t x.2.1).1 (find t x.2.1).2 W)
      rw [show pfit x.1 x.2.2 (find t x.2.1).1 (find t x.2.1).2 = pone t x from rfl] at H2
      generalize pone t x = p at *
      generalize find t x.2.1 = F at *
      clear hL hb HL HT hrow HTR
      cases p
      · have HF2 := Lib.hid (HF.out rfl)
        clear HF HN
        go_wp2_with fail
        refine (H1.out _).mono ?_
        rintro e w2 ⟨rfl, n2⟩
        have d2 := (hbl.alloc hz _).trans (n2.mono (by simp; omega))
        clear n2
        unfold askV
        go_wp2_with fail
        refine (H2.out _).mono ?_
        rintro e w3 ⟨rfl, n3⟩
        have d3 := d2.trans (n3.mono d2.size)
        go_wp2_with fail
        go_ret
        exact ⟨ret_bool (HF2.out).symm, d3⟩
      · have HN2 := Lib.hid (HN.out rfl)
        clear HF HN
        go_wp2_with fail
        refine (H1.out _).mono ?_
        rintro e w2 ⟨rfl, n2⟩
        have d2 := (hbl.alloc hz _).trans (n2.mono (by simp; omega))
        clear n2
        unfold askV
        go_wp2_with fail
        refine (H2.out _).mono ?_
        rintro e w3 ⟨rfl, n3⟩
        have d3 := d2.trans (n3.mono d2.size)
        go_wp2_with fail
        exact ⟨⟨k + 1, by omega, by go_num, HN2, d3⟩, by simp [intOf]; omega⟩
    · have HE : Hid (A = true) := by
        have h1 := HT.out
        rw [List.take_of_length_le (by omega)] at h1
        show A = true
        rw [← HA.out]
        exact h1
      go_wp2_with fail
      go_ret
      exact ⟨ret_bool (HE.out).symm, hbl⟩

theorem prefix_ext (v x : ByteArray) : ((v.extract 0 x.size).toList == x.toList) = Lib.hasPrefix v.data.toList x.data.toList := by
  rw [ByteArray.toList_eq, ByteArray.toList_eq, ext_lst, Nat.sub_zero, List.drop_zero, size_list x]
  unfold Lib.hasPrefix
  rw [Bool.eq_iff_iff, beq_iff_eq, List.isPrefixOf_iff_prefix]
  constructor
  · intro h
    have h2 := List.take_prefix x.data.toList.length v.data.toList
    rw [h] at h2
    exact h2
  · rintro ⟨t, ht⟩
    rw [← ht]
    simp
theorem prefix_long (v x : ByteArray) (h : v.size < x.size) : Lib.hasPrefix v.data.toList x.data.toList = false := by
  unfold Lib.hasPrefix
  cases hp : x.data.toList.isPrefixOf v.data.toList
  · rfl
  · rw [List.isPrefixOf_iff_prefix] at hp
    have := hp.length_le
    rw [← size_list, ← size_list] at this
    omega

set_option maxHeartbeats 2000000 in
theorem refOne_any (tv : Value) (t : List Tag) (m : Match) (w : World) (ht : TRow w tv t) (hm : t.length ≤ 1000000) (hz : ∀ y ∈ t, y.1.size ≤ 281474976710656 ∧ y.2.size ≤ 281474976710656) (hs : m.2.2.size ≤ 281474976710656) :
    Calls Tryz.prog 76 #[tv, .agg #[.int .i64 m.1, .string m.2.1, .string m.2.2]] w fun e w' => e = .returned (.bool (pone t m)) ∧ Below w.heap.size w w' := by
  have H1 := Lib.hid (fun o => refFind_any tv t m.2.1 (w.alloc o) (ht.on (aBelow _ _)) hm)
  have hfz : (find t m.2.1).1.size ≤ 281474976710656 := by
    unfold find
    cases hf : t.find? fun y => eqB y.1 m.2.1 with
    | none => exact Nat.zero_le _
    | some y => exact (hz y (List.mem_of_find?_eq_some hf)).2
  rw [show pone t m = pfit m.1 m.2.2 (find t m.2.1).1 (find t m.2.1).2 from rfl]
  generalize find t m.2.1 = F at *
  obtain ⟨v, ok⟩ := F
  obtain ⟨k, n, x⟩ := m
  dsimp only at *
  have Q1 := Lib.hid (beq_ba v x)
  clear hz ht
  rcases kinds k with rfl | rfl | rfl | rfl | ⟨k1, k2, k3, k4⟩
  · rw [pfit1]
    generalize eqB v x = q at *
    have q1 := Q1.out
    cases ok
    · go_enter Tryz.func76, Tryz.ntmps76
      go_wp2_with (first | (go_at_call 95; refine (H1.out _).mono ?_; rintro e w2 ⟨rfl, rfl⟩))
      go_ret
      exact ⟨rfl, aBelow _ _⟩
    · go_enter Tryz.func76, Tryz.ntmps76
      go_wp2_with (first | (go_at_call 95; refine (H1.out _).mono ?_; rintro e w2 ⟨rfl, rfl⟩))
      go_ret
      exact ⟨by simp, aBelow _ _⟩
  · rw [pfit2]
    generalize eqB v x = q at *
    have q1 := Q1.out
    cases ok
    · go_enter Tryz.func76, Tryz.ntmps76
      go_wp2_with (first | (go_at_call 95; refine (H1.out _).mono ?_; rintro e w2 ⟨rfl, rfl⟩))
      go_ret
      exact ⟨rfl, aBelow _ _⟩
    · go_enter Tryz.func76, Tryz.ntmps76
      go_wp2_with (first | (go_at_call 95; refine (H1.out _).mono ?_; rintro e w2 ⟨rfl, rfl⟩))
      go_ret
      exact ⟨by simp, aBelow _ _⟩
  · rw [pfit3]
    cases ok
    · go_enter Tryz.func76, Tryz.ntmps76
      go_wp2_with (first | (go_at_call 95; refine (H1.out _).mono ?_; rintro e w2 ⟨rfl, rfl⟩))
      go_quiet (fail)
      go_wp2_with fail
      go_ret
      exact ⟨rfl, below_drewN (aBelow _ _) _⟩
    · by_cases hl : x.size ≤ v.size
      · have HQ := Lib.hid (prefix_ext v x)
        generalize Lib.hasPrefix v.data.toList x.data.toList = q at *
        have q2 := HQ.out
        have i1 : (x.size : Int) ≤ (v.size : Int) := by omega
        have i2 : (0 : Int) ≤ (x.size : Int) := by omega
        go_enter Tryz.func76, Tryz.ntmps76
        go_wp2_with (first | (go_at_call 95; refine (H1.out _).mono ?_; rintro e w2 ⟨rfl, rfl⟩))
        go_quiet (fail)
        go_wp2_with fail
        go_ret
        exact ⟨by simp, below_drewN (aBelow _ _) _⟩
      · rw [prefix_long v x (by omega)]
        have i1 : ¬ (x.size : Int) ≤ (v.size : Int) := by omega
        go_enter Tryz.func76, Tryz.ntmps76
        go_wp2_with (first | (go_at_call 95; refine (H1.out _).mono ?_; rintro e w2 ⟨rfl, rfl⟩))
        go_quiet (fail)
        go_wp2_with fail
        go_ret
        exact ⟨by simp, below_drewN (aBelow _ _) _⟩
  · rw [pfit4]
    go_enter Tryz.func76, Tryz.ntmps76
    go_wp2_with (first | (go_at_call 95; refine (H1.out _).mono ?_; rintro e w2 ⟨rfl, rfl⟩))
    go_ret
    exact ⟨rfl, aBelow _ _⟩
  · rw [pfit5 k x v ok k1 k2 k3 k4]
    go_enter Tryz.func76, Tryz.ntmps76
    go_wp2_with (first | (go_at_call 95; refine (H1.out _).mono ?_; rintro e w2 ⟨rfl, rfl⟩))
    go_ret
    exact ⟨rfl, aBelow _ _⟩

set_option maxHeartbeats 1000000 in
theorem refFitsM_any (tv v : Value) (t : List Tag) (l : List Match) (w : World) (ht : TRow w tv t) (h : MRow w v l) (hn : l.length ≤ 1000000) (hm : t.length ≤ 1000000) (hz : ∀ y ∈ t, y.1.size ≤ 281474976710656 ∧ y.2.size ≤ 281474976710656) (hs : ∀ x ∈ l, x.2.1.size ≤ 281474976710656 ∧ x.2.2.size ≤ 281474976710656) :
    Calls Tryz.prog 48 #[tv, v] w fun e w' => e = .returned (.bool (pfits t l)) ∧ Below w.heap.size w w' := by
  obtain ⟨a, c, rfl, hc, hl⟩ := h
  have HL := Lib.hid hl
  have HTR := Lib.hid ht
  have HS := Lib.hid hs
  have HZ := Lib.hid hz
  clear hl ht hs hz
  obtain ⟨A, HA⟩ : ∃ A, Hid (pfits t l = A) := ⟨_, rfl⟩
  rw [HA.out]
  go_enter Tryz.func48, Tryz.ntmps48
  go_wp2
  go_loopw [5] (fun i wr => ∃ (k : Nat), k ≤ l.length ∧ i = .int .i64 k ∧ Hid (pfits t (l.take k) = true) ∧ Below w.heap.size w wr) (fun i _ => l.length - (intOf i).toNat)
  case atStart => exact ⟨0, Nat.zero_le _, rfl, rfl, Below.refl _ _⟩
  case round =>
    obtain ⟨k, hk, rfl, HT, hbl⟩ := hrel
    by_cases hlt : k < l.length
    · obtain ⟨b, o, rfl, hb, hL⟩ := HL.out (ne_of_lt hlt)
      obtain ⟨e0, e1, e2⟩ := (hL.on hb hbl) k hlt
      have i1 : (k : Int) < (l.length : Int) := by omega
      have i2 : (0 : Int) ≤ (k : Int) := by omega
      have HN : Hid (pone t l[k] = true → pfits t (l.take (k + 1)) = true) := fun h => by rw [fits_next hlt HT.out]; exact h
      have HF : Hid (pone t l[k] = false → A = false) := fun h => by
        show A = false
        rw [← HA.out]
        exact fits_not hlt h
      have H1 := Lib.hid (refOne_any tv t l[k] _ (HTR.out.on hbl) hm HZ.out (HS.out _ (List.getElem_mem hlt)).2)
      generalize l[k] = x at *
      generalize pone t x = p at *
      clear hL hb HL HT HTR HS HZ
      cases p
      · have HF2 := Lib.hid (HF.out rfl)
        clear HF HN
        go_wp2_with (first | (go_at_call 76; refine (H1.out).mono ?_; rintro e w2 ⟨rfl, n2⟩))
        go_ret
        exact ⟨ret_bool (HF2.out).symm, hbl.trans (n2.mono hbl.size)⟩
      · have HN2 := Lib.hid (HN.out rfl)
        clear HF HN
        go_wp2_with (first | (go_at_call 76; refine (H1.out).mono ?_; rintro e w2 ⟨rfl, n2⟩))
        exact ⟨⟨k + 1, by omega, by go_num, HN2, hbl.trans (n2.mono hbl.size)⟩, by simp [intOf]; omega⟩
    · have HE : Hid (A = true) := by
        have h1 := HT.out
        rw [List.take_of_length_le (by omega)] at h1
        show A = true
        rw [← HA.out]
        exact h1
      go_wp2_with fail
      go_ret
      exact ⟨ret_bool (HE.out).symm, hbl⟩
end Go.Proofs.YtfohknpjlkjbbaaGreatDoor
