/- Walks: the document's names behind by; whether a query is more than is looked at; the document's Same. Walks: whether a query is more than is looked at; Same of both; the document's Right. -/
import Derived.Test.YtfohknpjlkjbbaaGreatDoorQ1
namespace Go.Proofs.YtfohknpjlkjbbaaGreatDoor
open Go Go.RowKit Tg Pk Ky Qy

theorem allB_next {l : List ByteArray} {k : Nat} (hk : k < l.length) (h : (l.take k).all nmB = true) : (l.take (k + 1)).all nmB = nmB l[k] := by
  rw [List.take_succ_eq_append_getElem hk, List.all_append, h]
  simp
theorem allB_not {l : List ByteArray} {k : Nat} (hk : k < l.length) (h : nmB l[k] = false) : l.all nmB = false := by
  cases ha : l.all nmB
  · rfl
  · rw [List.all_eq_true.1 ha _ (List.getElem_mem hk)] at h
    cases h
theorem ret_i {a b : Int} (h : a = b) : Ending.returned (.int .i64 a) = .returned (.int .i64 b) := by rw [h]
/-- Is x among the first k? -/
def inTo (l : List ByteArray) (x : ByteArray) (k : Nat) : Bool := (l.take k).any fun y => eqB y x
theorem inTo_next {l : List ByteArray} {x : ByteArray} {k : Nat} (hk : k < l.length) : inTo l x (k + 1) = (inTo l x k || eqB l[k] x) := by
  unfold inTo
  rw [List.take_succ_eq_append_getElem hk, List.any_append]
  simp
theorem seen_in {l : List ByteArray} {k : Nat} (hk : k < l.length) : Qy.seen l k = inTo l l[k] k := by
  unfold Qy.seen inTo
  rw [List.getElem?_eq_getElem hk]
theorem inTo_more {l : List ByteArray} {x : ByteArray} {k i : Nat} (hki : k < i) (hk : k < l.length) (h : eqB l[k] x = true) : inTo l x i = true := by
  unfold inTo
  rw [List.any_eq_true]
  refine ⟨l[k], ?_, h⟩
  rw [List.mem_iff_getElem]
  refine ⟨k, by rw [List.length_take]; omega, ?_⟩
  rw [List.getElem_take]

set_option maxRecDepth 100000 in
set_option maxHeartbeats 1000000 in
theorem refNames_any (v : Value) (l : List ByteArray) (w : World) (h : Row w v l) (hn : l.length ≤ 1000000) (hs : ∀ x ∈ l, x.size ≤ 281474976710656) :
    Calls Tryz.prog 30 #[v] w fun e w' => e = .returned (.int .i64 (byE l)) ∧ Below w.heap.size w w' := by
  obtain ⟨a, c, rfl, hc, hl⟩ := h
  have HL := Lib.hid hl
  have HS := Lib.hid hs
  clear hl hs
  obtain ⟨C, HC⟩ : ∃ C, Hid (byE l = C) := ⟨_, rfl⟩
  rw [HC.out]
  go_enter Tryz.func30, Tryz.ntmps30
  go_wp2
  go_loop [3] (fun i => ∃ (k : Nat), k ≤ l.length ∧ i = .int .i64 k ∧ Hid ((l.take k).all nmB = true)) (fun i => l.length - (intOf i).toNat)
  case atStart => exact ⟨0, Nat.zero_le _, rfl, rfl⟩
  case round =>
    obtain ⟨k, hk, rfl, HT⟩ := hrel
    by_cases hlt : k < l.length
    · obtain ⟨b, o, rfl, hb, hL⟩ := HL.out (ne_of_lt hlt)
      have e1 := hL.at k hlt
      have i1 : (k : Int) < (l.length : Int) := by omega
      have i2 : (0 : Int) ≤ (k : Int) := by omega
      have z1 := HS.out _ (List.getElem_mem hlt)
      have HN : Hid (nmB l[k] = true → (l.take (k + 1)).all nmB = true) := fun h => by rw [allB_next hlt HT.out]; exact h
      have HF : Hid (nmB l[k] = false → C = 2) := fun h => by
        show C = _
        rw [← HC.out]
        exact byE_form (allB_not hlt h)
      have HB := Lib.hid (fun W => refName_any l[k] W (by omega))
      have HB : Hid (∀ W, Calls Tryz.prog 28 #[.string l[k]] W fun e w' => e = .returned (.bool (nmB l[k])) ∧ w' = W) := HB.out
      generalize l[k] = x at *
      clear hL hb HL HT HS
      generalize nmB x = p at *
      cases p
      · have HF2 := Lib.hid (HF.out rfl)
        clear HF HN
        go_wp2_with (first | (go_at_call 28; refine (HB.out _).mono ?_; rintro e w1 ⟨rfl, rfl⟩))
        go_ret
        exact ⟨ret_i (HF2.out).symm, Below.refl _ _⟩
      · have HN2 := Lib.hid (HN.out rfl)
        clear HF HN
        go_wp2_with (first | (go_at_call 28; refine (HB.out _).mono ?_; rintro e w1 ⟨rfl, rfl⟩))
        exact ⟨⟨k + 1, by omega, by go_num, HN2⟩, by simp [intOf]; omega⟩
    · have HA : Hid (l.all nmB = true) := by
        have h1 := HT.out
        rw [List.take_of_length_le (by omega)] at h1
        exact h1
      clear HT
      by_cases h4 : 4 < l.length
      · have HM := Lib.hid ((HC.out).symm.trans (byE_many HA.out h4))
        clear HA HL HS
        go_wp2_with fail
        go_ret
        exact ⟨ret_i (HM.out).symm, Below.refl _ _⟩
      · have HO4 := Lib.hid ((HC.out).symm.trans (byE_twice HA.out (by omega)))
        clear HA HC
        go_wp2_with fail
        go_loopw [4] (fun i wr => ∃ (k nq : Nat), k ≤ l.length ∧ i = .int .i64 k ∧ wr = w.drewN nq ∧ Hid (twiceTo l k = false)) (fun i _ => l.length - (intOf i).toNat)
        case atStart => exact ⟨0, 0, Nat.zero_le _, rfl, rfl, rfl⟩
        case round =>
          obtain ⟨i, nq, hi, rfl, rfl, HT⟩ := hrel
          by_cases hlt : i < l.length
          · obtain ⟨b, o, rfl, hb, hL⟩ := HL.out (ne_of_lt hlt)
            have e1 := hL.at i hlt
            have i1 : (i : Int) < (l.length : Int) := by omega
            have i2 : (0 : Int) ≤ (i : Int) := by omega
            have HN : Hid (inTo l l[i] i = false → twiceTo l (i + 1) = false) := fun h => by
              show _ = false
              rw [twiceTo_succ, HT.out, seen_in hlt, h]
              rfl
            have HF : Hid (inTo l l[i] i = true → C = 5) := fun h => by
              show C = 5
              rw [HO4.out, twiceTo_true (k := i) (by rw [seen_in hlt]; exact h)]
              rfl
            have HLL := Lib.hid hL
            generalize l[i] = x at *
            clear hL hb HL HT HS HO4
            go_wp2_with fail
            go_loopw [5] (fun j wr => ∃ (k nr : Nat), k ≤ i ∧ j = .int .i64 k ∧ wr = w.drewN nr ∧ Hid (inTo l x k = false)) (fun j _ => i - (intOf j).toNat)
            case atStart => exact ⟨0, _, Nat.zero_le _, rfl, rfl, rfl⟩
            case round =>
              obtain ⟨k, nr, hk, rfl, rfl, HT⟩ := hrel
              by_cases hki : k < i
              · have hkl : k < l.length := by omega
                have e2 := HLL.out.at k hkl
                have j1 : (k : Int) < (i : Int) := by omega
                have j2 : (0 : Int) ≤ (k : Int) := by omega
                have j3 : (k : Int) < (l.length : Int) := by omega
                have HN1 : Hid (eqB l[k] x = false → inTo l x (k + 1) = false) := fun h => by
                  show _ = false
                  rw [inTo_next hkl, HT.out, h]
                  rfl
                have HF1 : Hid (eqB l[k] x = true → C = 5) := fun h => HF.out (inTo_more hki hkl h)
                have HQ := Lib.hid (beq_ba l[k] x)
                generalize l[k] = y at *
                clear HT HF HN HLL
                cases hq : eqB y x
                · have hq' := HQ.out.trans hq
                  have HN2 := Lib.hid (HN1.out hq)
                  clear hq HF1 HN1 HQ
                  go_wp2_with fail
                  go_quiet (fail)
                  go_wp2_with fail
                  exact ⟨⟨k + 1, _, by omega, by go_num, rfl, HN2⟩, by simp [intOf]; omega⟩
                · have hq' := HQ.out.trans hq
                  have HF2 := Lib.hid (HF1.out hq)
                  clear hq HF1 HN1 HQ
                  go_wp2_with fail
                  go_quiet (fail)
                  go_wp2_with fail
                  go_ret
                  exact ⟨ret_i (HF2.out).symm, ⟨rfl, rfl, rfl, Nat.le_refl _, fun _ _ => rfl⟩⟩
              · have HE : Hid (twiceTo l (i + 1) = false) := by
                  have hki2 : k = i := by omega
                  have h1 := HT.out
                  rw [hki2] at h1
                  exact HN.out h1
                have j1 : ¬ (k : Int) < (i : Int) := by omega
                clear HT HF HN HLL
                go_wp2_with fail
                exact ⟨⟨i + 1, _, by omega, by go_num, rfl, HE⟩, by simp [intOf]; omega⟩
          · have HE : Hid (C = 0) := by
              have h1 := HT.out
              have h2 : i = l.length := by omega
              rw [h2, twiceTo_all] at h1
              show C = 0
              rw [HO4.out, h1]
              rfl
            clear HT HO4 HL HS
            go_wp2_with fail
            go_ret
            exact ⟨ret_i (HE.out).symm, ⟨rfl, rfl, rfl, Nat.le_refl _, fun _ _ => rfl⟩⟩
end Go.Proofs.YtfohknpjlkjbbaaGreatDoor
namespace Go.Proofs.YtfohknpjlkjbbaaGreatDoor
open Go Go.RowKit Tg Pk Ky Qy

def greatBy (l : List ByteArray) : Bool := decide (20 < l.length) || l.any fun x => decide (100 < x.size)
def greatQ (q : Query) : Bool := decide (200 < q.2.1.size) || (greatM q.2.2.1 || greatBy q.2.2.2)

set_option maxHeartbeats 1000000 in
theorem qgreat_any (v : Value) (q : Query) (w : World) (h : QRow w v q) (hz : q.2.1.size ≤ 281474976710656) (hm : ∀ x ∈ q.2.2.1, x.2.1.size ≤ 281474976710656 ∧ x.2.2.size ≤ 281474976710656) (hb : ∀ x ∈ q.2.2.2, x.size ≤ 281474976710656) :
    Calls Tryz.prog 8 #[v] w fun e w' => e = .returned (.bool (greatQ q)) ∧ Below w.heap.size w w' := by
  obtain ⟨a, c, b, d, rfl, rm, rb⟩ := h.open
  clear h
  obtain ⟨g, n, m, l⟩ := q
  dsimp only at *
  by_cases h1 : 200 < n.size
  · have hv : greatQ (g, n, m, l) = true := by simp [greatQ, h1]
    rw [hv]
    clear hv
    go_enter Tryz.func8, Tryz.ntmps8
    go_wp2
    go_ret
    exact ⟨rfl, aBelow _ _⟩
  · have HG := Lib.hid (fun W (n : Below w.heap.size w W) => greatM_any _ m W (rm.on n) hm)
    have hv : greatQ (g, n, m, l) = (greatM m || greatBy l) := by simp [greatQ, h1]
    rw [hv]
    clear hv
    generalize greatM m = p at *
    cases p
    · obtain ⟨b', d', hv, hc, hl⟩ := rb
      cases hv
      by_cases h20 : 20 < l.length
      · have hv : greatBy l = true := by simp [greatBy, h20]
        rw [hv]
        clear hv hl
        go_enter Tryz.func8, Tryz.ntmps8
        go_wp2_with fail
        refine (HG.out _ (aBelow _ _)).mono ?_
        rintro e w1 ⟨rfl, hw⟩
        have hw := hw.symm
        subst hw
        go_wp2_with fail
        go_ret
        exact ⟨rfl, aBelow _ _⟩
      · have hv : greatBy l = l.any fun x => decide (100 < x.size) := by simp [greatBy, h20]
        rw [hv, Bool.false_or]
        clear hv
        have HL := Lib.hid hl
        have HS := Lib.hid hb
        clear hl hb
        obtain ⟨A, HA⟩ : ∃ A, Hid ((l.any fun x => decide (100 < x.size)) = A) := ⟨_, rfl⟩
        rw [HA.out]
        go_enter Tryz.func8, Tryz.ntmps8
        go_wp2_with fail
        refine (HG.out _ (aBelow _ _)).mono ?_
        rintro e w1 ⟨rfl, hw⟩
        have hw := hw.symm
        subst hw
        go_wp2_with fail
        go_loopw [3] (fun i wr => ∃ k nq : Nat, k ≤ l.length ∧ i = .int .i64 k ∧ wr = (w.alloc (.cells #[.int .i64 g, .string n, .slice a m.length c, .slice b l.length d] 25)).drewN nq ∧ Hid (((l.take k).any fun x => decide (100 < x.size)) = false)) (fun i _ => l.length - (intOf i).toNat)
        case atStart => exact ⟨0, 0, Nat.zero_le _, rfl, rfl, rfl⟩
        case round =>
          obtain ⟨k, nq, hk, rfl, rfl, HT⟩ := hrel
          by_cases hlt : k < l.length
          · obtain ⟨b1, o, rfl, hb, hL⟩ := HL.out (ne_of_lt hlt)
            have e1 := (hL.on hb (aBelow w (.cells #[.int .i64 g, .string n, .slice a m.length c, .slice (some ⟨b1, o, none⟩) l.length d] 25))).at k hlt
            have i1 : (k : Int) < (l.length : Int) := by omega
            have i2 : (0 : Int) ≤ (k : Int) := by omega
            have z1 := HS.out _ (List.getElem_mem hlt)
            have HT2 : Hid (((l.take (k + 1)).any fun x => decide (100 < x.size)) = decide (100 < (l[k]).size)) := by
              show _ = _
              rw [List.take_succ_eq_append_getElem hlt, List.any_append, HT.out]
              simp
            have HF : Hid (decide (100 < (l[k]).size) = true → A = true) := by
              intro h
              show A = true
              rw [← HA.out, List.any_eq_true]
              exact ⟨_, List.getElem_mem hlt, h⟩
            generalize l[k] = x at *
            clear hL hb HL HS HT
            by_cases g1 : 100 < x.size
            · have g2 : (100 : Int) < (x.size : Int) := by omega
              have HF2 := Lib.hid (HF.out (decide_eq_true g1))
              clear HF HT2 g1
              go_wp2_with fail
              go_ret
              exact ⟨ret_bool (HF2.out).symm, below_drewN (aBelow _ _) _⟩
            · have g2 : ¬ (100 : Int) < (x.size : Int) := by omega
              have HN2 := Lib.hid ((HT2.out).trans (decide_eq_false g1))
              clear HF HT2 g1
              go_wp2_with fail
              exact ⟨⟨k + 1, _, by omega, by go_num, rfl, HN2⟩, by simp [intOf]; omega⟩
          · have HF : Hid (A = false) := by
              have h1 := HT.out
              rw [List.take_of_length_le (by omega)] at h1
              show A = false
              rw [← HA.out]
              exact h1
            go_wp2_with fail
            go_ret
            exact ⟨ret_bool (HF.out).symm, below_drewN (aBelow _ _) _⟩
    · go_enter Tryz.func8, Tryz.ntmps8
      go_wp2_with fail
      refine (HG.out _ (aBelow _ _)).mono ?_
      rintro e w1 ⟨rfl, hw⟩
      have hw := hw.symm
      subst hw
      go_wp2_with fail
      go_ret
      exact ⟨rfl, aBelow _ _⟩

/-- Are they the same? -/
def eqQ (p q : Query) : Bool := decide (p.1 = q.1) && (eqB p.2.1 q.2.1 && (decide (p.2.2.1 = q.2.2.1) && decide (p.2.2.2 = q.2.2.2)))
theorem eqQ_true (p q : Query) : eqQ p q = true ↔ p = q := by
  unfold eqQ
  rw [Bool.and_eq_true, Bool.and_eq_true, Bool.and_eq_true, eqB_true, decide_eq_true_eq, decide_eq_true_eq, decide_eq_true_eq]
  constructor
  · rintro ⟨h1, h2, h3, h4⟩
    exact Prod.ext h1 (Prod.ext h2 (Prod.ext h3 h4))
  · rintro rfl
    exact ⟨rfl, rfl, rfl, rfl⟩
theorem eqQ_self (p : Query) : eqQ p p = true := (eqQ_true p p).2 rfl
set_option maxHeartbeats 1000000 in
theorem refQsame_any (v1 v2 : Value) (p q : Query) (w : World) (h1 : QRow w v1 p) (h2 : QRow w v2 q) (hn : p.2.2.1.length ≤ 1000000) (hn2 : p.2.2.2.length ≤ 1000000) :
    Calls Tryz.prog 14 #[v1, v2] w fun e w' => e = .returned (.bool (eqQ p q)) ∧ Below w.heap.size w w' := by
  obtain ⟨a, c, b, d, rfl, rm, rb⟩ := h1.open
  obtain ⟨a', c', b', d', rfl, rm', rb'⟩ := h2.open
  clear h1 h2
  have H1 := fun W (n : Below w.heap.size w W) => refSame_any _ _ p.2.2.1 q.2.2.1 W (rm.on n) (rm'.on n) hn
  have H2 := fun W (n : Below w.heap.size w W) => refSameB_any _ _ p.2.2.2 q.2.2.2 W (rb.on n) (rb'.on n) hn2
  have Q1 := Lib.hid (beq_ba p.2.1 q.2.1)
  rw [show eqQ p q = (decide (p.1 = q.1) && (eqB p.2.1 q.2.1 && (decide (p.2.2.1 = q.2.2.1) && decide (p.2.2.2 = q.2.2.2)))) from rfl]
  generalize decide (p.2.2.1 = q.2.2.1) = dm at *
  generalize decide (p.2.2.2 = q.2.2.2) = db at *
  generalize eqB p.2.1 q.2.1 = dn at *
  have H1 := Lib.hid H1
  have H2 := Lib.hid H2
  clear rm rb rm' rb' hn hn2
  have q1 := Q1.out
  by_cases g : p.1 = q.1
  · rw [decide_eq_true g, Bool.true_and]
    have gq : (p.1 == q.1) = true := by simp [g]
    clear g
    cases dn
    · go_enter Tryz.func14, Tryz.ntmps14
      go_wp2_with fail
      go_ret
      exact ⟨rfl, aBelow2 _ _ _⟩
    · cases dm
      · go_enter Tryz.func14, Tryz.ntmps14
        go_wp2_with fail
        refine (H1.out _ (aBelow2 _ _ _)).mono ?_
        rintro e w2 ⟨rfl, n2⟩
        have d2 := belowA2 n2
        go_wp2_with fail
        go_ret
        exact ⟨rfl, d2⟩
      · go_enter Tryz.func14, Tryz.ntmps14
        go_wp2_with fail
        refine (H1.out _ (aBelow2 _ _ _)).mono ?_
        rintro e w2 ⟨rfl, n2⟩
        have d2 := belowA2 n2
        have c0 := newC (i := 3) n2
        have c1 := newC (i := 3) (belowA n2)
        simp at c0 c1
        clear n2
        go_wp2_with fail
        refine (H2.out _ d2).mono ?_
        rintro e w3 ⟨rfl, n3⟩
        have d3 := d2.trans (n3.mono d2.size)
        go_wp2_with fail
        go_ret
        exact ⟨by simp, d3⟩
  · rw [decide_eq_false g, Bool.false_and]
    have gq : (p.1 == q.1) = false := by simp [g]
    go_enter Tryz.func14, Tryz.ntmps14
    go_wp2_with fail
    go_ret
    exact ⟨rfl, aBelow2 _ _ _⟩
set_option maxHeartbeats 1000000 in
theorem qsame_any (v1 v2 : Value) (p q : Query) (w : World) (h1 : QRow w v1 p) (h2 : QRow w v2 q) (hn : p.2.2.1.length ≤ 1000000) (hn2 : p.2.2.2.length ≤ 1000000) :
    Calls Tryz.prog 13 #[v1, v2] w fun e w' => e = .returned (.bool (eqQ p q)) ∧ Below w.heap.size w w' := by
  obtain ⟨a, c, b, d, rfl, rm, rb⟩ := h1.open
  obtain ⟨a', c', b', d', rfl, rm', rb'⟩ := h2.open
  clear h1 h2
  have H1 := fun W (n : Below w.heap.size w W) => same_any _ _ p.2.2.1 q.2.2.1 W (rm.on n) (rm'.on n) hn
  have H2 := fun W (n : Below w.heap.size w W) => equalB_any _ _ p.2.2.2 q.2.2.2 W (rb.on n) (rb'.on n) hn2
  have Q1 := Lib.hid (beq_ba p.2.1 q.2.1)
  rw [show eqQ p q = (decide (p.1 = q.1) && (eqB p.2.1 q.2.1 && (decide (p.2.2.1 = q.2.2.1) && decide (p.2.2.2 = q.2.2.2)))) from rfl]
  generalize decide (p.2.2.1 = q.2.2.1) = dm at *
  generalize decide (p.2.2.2 = q.2.2.2) = db at *
  generalize eqB p.2.1 q.2.1 = dn at *
  have H1 := Lib.hid H1
  have H2 := Lib.hid H2
  clear rm rb rm' rb' hn hn2
  have q1 := Q1.out
  by_cases g : p.1 = q.1
  · rw [decide_eq_true g, Bool.true_and]
    have gq : (p.1 == q.1) = true := by simp [g]
    clear g
    cases dn
    · go_enter Tryz.func13, Tryz.ntmps13
      go_wp2_with fail
      go_ret
      exact ⟨rfl, aBelow2 _ _ _⟩
    · cases dm
      · go_enter Tryz.func13, Tryz.ntmps13
        go_wp2_with fail
        refine (H1.out _ (aBelow2 _ _ _)).mono ?_
        rintro e w2 ⟨rfl, n2⟩
        have d2 := belowA2 n2
        go_wp2_with fail
        go_ret
        exact ⟨rfl, d2⟩
      · go_enter Tryz.func13, Tryz.ntmps13
        go_wp2_with fail
        refine (H1.out _ (aBelow2 _ _ _)).mono ?_
        rintro e w2 ⟨rfl, n2⟩
        have d2 := belowA2 n2
        have c0 := newC (i := 3) n2
        have c1 := newC (i := 3) (belowA n2)
        simp at c0 c1
        clear n2
        go_wp2_with fail
        refine (H2.out _ d2).mono ?_
        rintro e w3 ⟨rfl, n3⟩
        have d3 := d2.trans (n3.mono d2.size)
        go_wp2_with fail
        go_ret
        exact ⟨by simp, d3⟩
  · rw [decide_eq_false g, Bool.false_and]
    have gq : (p.1 == q.1) = false := by simp [g]
    go_enter Tryz.func13, Tryz.ntmps13
    go_wp2_with fail
    go_ret
    exact ⟨rfl, aBelow2 _ _ _⟩

end Go.Proofs.YtfohknpjlkjbbaaGreatDoor
