/- Carried over from earlier layers: walks and lemmas. -/
import Derived.Test.YtidkpalckafgkaaGreatDoorA6
namespace Go.Proofs.YtidkpalckafgkaaGreatDoor
open Go Go.RowKit Tg Pk Ky
theorem MRow.open {w : World} {v : Value} {l : List Match} (h : MRow w v l) (hne : l ≠ []) : ∃ b o c, v = .slice (some ⟨b, o, none⟩) l.length c ∧ l.length ≤ c ∧ b < w.heap.size ∧ MLies w b o l := by
  obtain ⟨a, c, hv, hc, hat⟩ := h
  obtain ⟨b, o, rfl, hb, hL⟩ := hat hne
  exact ⟨b, o, c, hv, hc, hb, hL⟩
theorem MRow.shut {w : World} {b o c : Nat} {l : List Match} (hc : l.length ≤ c) (hb : b < w.heap.size) (hL : MLies w b o l) : MRow w (.slice (some ⟨b, o, none⟩) l.length c) l := ⟨_, c, rfl, hc, fun _ => ⟨b, o, rfl, hb, hL⟩⟩
end Go.Proofs.YtidkpalckafgkaaGreatDoor
namespace Go.Proofs.YtidkpalckafgkaaGreatDoor
open Go Go.RowKit Tg Pk Ky Qy
/-- What an agg is called, as a text. -/
def aggB (a : Int) : ByteArray := bb (aggW a)
theorem aggs5 (k : Int) : k = 1 ∨ k = 2 ∨ k = 3 ∨ k = 4 ∨ (¬ k = 1 ∧ ¬ k = 2 ∧ ¬ k = 3 ∧ ¬ k = 4) := by omega
theorem aggB1 : aggB 1 = ⟨#[99, 111, 117, 110, 116]⟩ := rfl
theorem aggB2 : aggB 2 = ⟨#[115, 117, 109]⟩ := rfl
theorem aggB3 : aggB 3 = ⟨#[109, 105, 110]⟩ := rfl
theorem aggB4 : aggB 4 = ⟨#[109, 97, 120]⟩ := rfl
theorem aggB5 (k : Int) (h1 : ¬ k = 1) (h2 : ¬ k = 2) (h3 : ¬ k = 3) (h4 : ¬ k = 4) : aggB k = ⟨#[]⟩ := by unfold aggB aggW; simp [h1, h2, h3, h4, bb]
set_option maxRecDepth 100000 in
set_option maxHeartbeats 400000 in
theorem aggWord_any (a : Int) (w : World) :
    Calls Tryz.prog 80 #[.int .i64 a] w fun e w' => e = .returned (.string (aggB a)) ∧ w' = w := by
  rcases aggs5 a with rfl | rfl | rfl | rfl | ⟨k1, k2, k3, k4⟩
  · rw [aggB1]
    go_enter Tryz.func80, Tryz.ntmps80
    go_wp2
    go_ret
    exact ⟨rfl, rfl⟩
  · rw [aggB2]
    go_enter Tryz.func80, Tryz.ntmps80
    go_wp2
    go_ret
    exact ⟨rfl, rfl⟩
  · rw [aggB3]
    go_enter Tryz.func80, Tryz.ntmps80
    go_wp2
    go_ret
    exact ⟨rfl, rfl⟩
  · rw [aggB4]
    go_enter Tryz.func80, Tryz.ntmps80
    go_wp2
    go_ret
    exact ⟨rfl, rfl⟩
  · rw [aggB5 a k1 k2 k3 k4]
    go_enter Tryz.func80, Tryz.ntmps80
    go_wp2
    go_ret
    exact ⟨rfl, rfl⟩
/-- The value v is the query q: its agg, its name, a slice that holds its matches and one that holds its names behind by. -/
def QRow (w : World) (v : Value) (q : Query) : Prop := ∃ m b, v = .agg #[.int .i64 q.1, .string q.2.1, m, b] ∧ MRow w m q.2.2.1 ∧ Row w b q.2.2.2
theorem QRow.on {w w1 : World} {v : Value} {q : Query} (h : QRow w v q) (n : Below w.heap.size w w1) : QRow w1 v q := by
  obtain ⟨m, b, hv, hm, hb⟩ := h
  exact ⟨m, b, hv, hm.on n, hb.on n⟩
theorem Row.nil (w : World) : Row w (.slice none 0 0) [] := ⟨none, 0, rfl, Nat.le_refl _, fun h => absurd rfl h⟩
theorem qnone_row (w : World) : QRow w (.agg #[.int .i64 0, .string ⟨#[]⟩, .slice none 0 0, .slice none 0 0]) qnone := ⟨_, _, rfl, MRow.nil w, Row.nil w⟩
theorem QRow.open {w : World} {v : Value} {q : Query} (h : QRow w v q) : ∃ a c b d, v = .agg #[.int .i64 q.1, .string q.2.1, .slice a q.2.2.1.length c, .slice b q.2.2.2.length d] ∧ MRow w (.slice a q.2.2.1.length c) q.2.2.1 ∧ Row w (.slice b q.2.2.2.length d) q.2.2.2 := by
  obtain ⟨m, n, rfl, ⟨a, c, rfl, hc, hat⟩, ⟨b, d, rfl, hd, hbt⟩⟩ := h
  exact ⟨a, c, b, d, rfl, ⟨a, c, rfl, hc, hat⟩, ⟨b, d, rfl, hd, hbt⟩⟩
theorem QRow.shut {w : World} {a b : Option Addr} {c d : Nat} {q : Query} (h : MRow w (.slice a q.2.2.1.length c) q.2.2.1) (h' : Row w (.slice b q.2.2.2.length d) q.2.2.2) : QRow w (.agg #[.int .i64 q.1, .string q.2.1, .slice a q.2.2.1.length c, .slice b q.2.2.2.length d]) q := ⟨_, _, rfl, h, h'⟩
end Go.Proofs.YtidkpalckafgkaaGreatDoor
namespace Go.Proofs.YtidkpalckafgkaaGreatDoor
open Go Go.RowKit Tg Pk Ky Qy
open Go Go.RowKit Tg Pk Ky Qy
theorem allB_next {l : List ByteArray} {k : Nat} (hk : k < l.length) (h : (l.take k).all nmB = true) : (l.take (k + 1)).all nmB = nmB l[k] := by
  rw [List.take_succ_eq_append_getElem hk, List.all_append, h]
  simp
theorem allB_not {l : List ByteArray} {k : Nat} (hk : k < l.length) (h : nmB l[k] = false) : l.all nmB = false := by
  cases ha : l.all nmB
  · rfl
  · rw [List.all_eq_true.1 ha _ (List.getElem_mem hk)] at h
    cases h
theorem ret_i {a b : Int} (h : a = b) : Ending.returned (.int .i64 a) = .returned (.int .i64 b) := by rw [h]
/-- Is x among the first k? -/
def inTo (l : List ByteArray) (x : ByteArray) (k : Nat) : Bool := (l.take k).any fun y => eqB y x
theorem inTo_next {l : List ByteArray} {x : ByteArray} {k : Nat} (hk : k < l.length) : inTo l x (k + 1) = (inTo l x k || eqB l[k] x) := by
  unfold inTo
  rw [List.take_succ_eq_append_getElem hk, List.any_append]
  simp
theorem seen_in {l : List ByteArray} {k : Nat} (hk : k < l.length) : Qy.seen l k = inTo l l[k] k := by
  unfold Qy.seen inTo
  rw [List.getElem?_eq_getElem hk]
theorem inTo_more {l : List ByteArray} {x : ByteArray} {k i : Nat} (hki : k < i) (hk : k < l.length) (h : eqB l[k] x = true) : inTo l x i = true := by
  unfold inTo
  rw [List.any_eq_true]
  refine ⟨l[k], ?_, h⟩
  rw [List.mem_iff_getElem]
  refine ⟨k, by rw [List.length_take]; omega, ?_⟩
  rw [List.getElem_take]
set_option maxRecDepth 100000 in
set_option maxHeartbeats 1000000 in
theorem refNames_any (v : Value) (l : List ByteArray) (w : World) (h : Row w v l) (hn : l.length ≤ 1000000) (hs : ∀ x ∈ l, x.size ≤ 281474976710656) :
    Calls Tryz.prog 62 #[v] w fun e w' => e = .returned (.int .i64 (byE l)) ∧ Below w.heap.size w w' := by
  obtain ⟨a, c, rfl, hc, hl⟩ := h
  have HL := Lib.hid hl
  have HS := Lib.hid hs
  clear hl hs
  obtain ⟨C, HC⟩ : ∃ C, Hid (byE l = C) := ⟨_, rfl⟩
  rw [HC.out]
  go_enter Tryz.func62, Tryz.ntmps62
  go_wp2
  go_loop [3] (fun i => ∃ (k : Nat), k ≤ l.length ∧ i = .int .i64 k ∧ Hid ((l.take k).all nmB = true)) (fun i => l.length - (intOf i).toNat)
  case atStart => exact ⟨0, Nat.zero_le _, rfl, rfl⟩
  case round =>
    obtain ⟨k, hk, rfl, HT⟩ := hrel
    by_cases hlt : k < l.length
    · obtain ⟨b, o, rfl, hb, hL⟩ := HL.out (ne_of_lt hlt)
      have e1 := hL.at k hlt
      have i1 : (k : Int) < (l.length : Int) := by omega
      have i2 : (0 : Int) ≤ (k : Int) := by omega
      have z1 := HS.out _ (List.getElem_mem hlt)
      have HN : Hid (nmB l[k] = true → (l.take (k + 1)).all nmB = true) := fun h => by rw [allB_next hlt HT.out]; exact h
      have HF : Hid (nmB l[k] = false → C = 2) := fun h => by
        show C = _
        rw [← HC.out]
        exact byE_form (allB_not hlt h)
      have HB := Lib.hid (fun W => refName_any l[k] W (by omega))
      have HB : Hid (∀ W, Calls Tryz.prog 60 #[.string l[k]] W fun e w' => e = .returned (.bool (nmB l[k])) ∧ w' = W) := HB.out
      generalize l[k] = x at *
      clear hL hb HL HT HS
      generalize nmB x = p at *
      cases p
      · have HF2 := Lib.hid (HF.out rfl)
        clear HF HN
        go_wp2_with (first | (go_at_call 60; refine (HB.out _).mono ?_; rintro e w1 ⟨rfl, rfl⟩))
        go_ret
        exact ⟨ret_i (HF2.out).symm, Below.refl _ _⟩
      · have HN2 := Lib.hid (HN.out rfl)
        clear HF HN
        go_wp2_with (first | (go_at_call 60; refine (HB.out _).mono ?_; rintro e w1 ⟨rfl, rfl⟩))
        exact ⟨⟨k + 1, by omega, by go_num, HN2⟩, by simp [intOf]; omega⟩
    · have HA : Hid (l.all nmB = true) := by
        have h1 := HT.out
        rw [List.take_of_length_le (by omega)] at h1
        exact h1
      clear HT
      by_cases h4 : 4 < l.length
      · have HM := Lib.hid ((HC.out).symm.trans (byE_many HA.out h4))
        clear HA HL HS
        go_wp2_with fail
        go_ret
        exact ⟨ret_i (HM.out).symm, Below.refl _ _⟩
      · have HO4 := Lib.hid ((HC.out).symm.trans (byE_twice HA.out (by omega)))
        clear HA HC
        go_wp2_with fail
        go_loopw [4] (fun i wr => ∃ (k nq : Nat), k ≤ l.length ∧ i = .int .i64 k ∧ wr = w.drewN nq ∧ Hid (twiceTo l k = false)) (fun i _ => l.length - (intOf i).toNat)
        case atStart => exact ⟨0, 0, Nat.zero_le _, rfl, rfl, rfl⟩
        case round =>
          obtain ⟨i, nq, hi, rfl, rfl, HT⟩ := hrel
          by_cases hlt : i < l.length
          · obtain ⟨b, o, rfl, hb, hL⟩ := HL.out (ne_of_lt hlt)
            have e1 := hL.at i hlt
            have i1 : (i : Int) < (l.length : Int) := by omega
            have i2 : (0 : Int) ≤ (i : Int) := by omega
            have HN : Hid (inTo l l[i] i = false → twiceTo l (i + 1) = false) := fun h => by
              show _ = false
              rw [twiceTo_succ, HT.out, seen_in hlt, h]
              rfl
            have HF : Hid (inTo l l[i] i = true → C = 5) := fun h => by
              show C = 5
              rw [HO4.out, twiceTo_true (k := i) (by rw [seen_in hlt]; exact h)]
              rfl
            have HLL := Lib.hid hL
            generalize l[i] = x at *
            clear hL hb HL HT HS HO4
            go_wp2_with fail
            go_loopw [5] (fun j wr => ∃ (k nr : Nat), k ≤ i ∧ j = .int .i64 k ∧ wr = w.drewN nr ∧ Hid (inTo l x k = false)) (fun j _ => i - (intOf j).toNat)
            case atStart => exact ⟨0, _, Nat.zero_le _, rfl, rfl, rfl⟩
            case round =>
              obtain ⟨k, nr, hk, rfl, rfl, HT⟩ := hrel
              by_cases hki : k < i
              · have hkl : k < l.length := by omega
                have e2 := HLL.out.at k hkl
                have j1 : (k : Int) < (i : Int) := by omega
                have j2 : (0 : Int) ≤ (k : Int) := by omega
                have j3 : (k : Int) < (l.length : Int) := by omega
                have HN1 : Hid (eqB l[k] x = false → inTo l x (k + 1) = false) := fun h => by
                  show _ = false
                  rw [inTo_next hkl, HT.out, h]
                  rfl
                have HF1 : Hid (eqB l[k] x = true → C = 5) := fun h => HF.out (inTo_more hki hkl h)
                have HQ := Lib.hid (beq_ba l[k] x)
                generalize l[k] = y at *
                clear HT HF HN HLL
                cases hq : eqB y x
                · have hq' := HQ.out.trans hq
                  have HN2 := Lib.hid (HN1.out hq)
                  clear hq HF1 HN1 HQ
                  go_wp2_with fail
                  go_quiet (fail)
                  go_wp2_with fail
                  exact ⟨⟨k + 1, _, by omega, by go_num, rfl, HN2⟩, by simp [intOf]; omega⟩
                · have hq' := HQ.out.trans hq
                  have HF2 := Lib.hid (HF1.out hq)
                  clear hq HF1 HN1 HQ
                  go_wp2_with fail
                  go_quiet (fail)
                  go_wp2_with fail
                  go_ret
                  exact ⟨ret_i (HF2.out).symm, ⟨rfl, rfl, rfl, Nat.le_refl _, fun _ _ => rfl⟩⟩
              · have HE : Hid (twiceTo l (i + 1) = false) := by
                  have hki2 : k = i := by omega
                  have h1 := HT.out
                  rw [hki2] at h1
                  exact HN.out h1
                have j1 : ¬ (k : Int) < (i : Int) := by omega
                clear HT HF HN HLL
                go_wp2_with fail
                exact ⟨⟨i + 1, _, by omega, by go_num, rfl, HE⟩, by simp [intOf]; omega⟩
          · have HE : Hid (C = 0) := by
              have h1 := HT.out
              have h2 : i = l.length := by omega
              rw [h2, twiceTo_all] at h1
              show C = 0
              rw [HO4.out, h1]
              rfl
            clear HT HO4 HL HS
            go_wp2_with fail
            go_ret
            exact ⟨ret_i (HE.out).symm, ⟨rfl, rfl, rfl, Nat.le_refl _, fun _ _ => rfl⟩⟩
def greatBy (l : List ByteArray) : Bool := decide (20 < l.length) || l.any fun x => decide (100 < x.size)
def greatQ (q : Query) : Bool := decide (200 < q.2.1.size) || (greatM q.2.2.1 || greatBy q.2.2.2)
set_option maxRecDepth 100000 in
set_option maxHeartbeats 1000000 in
theorem qgreat_any (v : Value) (q : Query) (w : World) (h : QRow w v q) (hz : q.2.1.size ≤ 281474976710656) (hm : ∀ x ∈ q.2.2.1, x.2.1.size ≤ 281474976710656 ∧ x.2.2.size ≤ 281474976710656) (hb : ∀ x ∈ q.2.2.2, x.size ≤ 281474976710656) :
    Calls Tryz.prog 21 #[v] w fun e w' => e = .returned (.bool (greatQ q)) ∧ Below w.heap.size w w' := by
  obtain ⟨a, c, b, d, rfl, rm, rb⟩ := h.open
  clear h
  obtain ⟨g, n, m, l⟩ := q
  dsimp only at *
  by_cases h1 : 200 < n.size
  · have hv : greatQ (g, n, m, l) = true := by simp [greatQ, h1]
    rw [hv]
    clear hv
    go_enter Tryz.func21, Tryz.ntmps21
    go_wp2
    go_ret
    exact ⟨rfl, aBelow _ _⟩
  · have HG := Lib.hid (fun W (n : Below w.heap.size w W) => greatM_any _ m W (rm.on n) hm)
    have hv : greatQ (g, n, m, l) = (greatM m || greatBy l) := by simp [greatQ, h1]
    rw [hv]
    clear hv
    generalize greatM m = p at *
    cases p
    · obtain ⟨b', d', hv, hc, hl⟩ := rb
      cases hv
      by_cases h20 : 20 < l.length
      · have hv : greatBy l = true := by simp [greatBy, h20]
        rw [hv]
        clear hv hl
        go_enter Tryz.func21, Tryz.ntmps21
        go_wp2_with fail
        refine (HG.out _ (aBelow _ _)).mono ?_
        rintro e w1 ⟨rfl, hw⟩
        have hw := hw.symm
        subst hw
        go_wp2_with fail
        go_ret
        exact ⟨rfl, aBelow _ _⟩
      · have hv : greatBy l = l.any fun x => decide (100 < x.size) := by simp [greatBy, h20]
        rw [hv, Bool.false_or]
        clear hv
        have HL := Lib.hid hl
        have HS := Lib.hid hb
        clear hl hb
        obtain ⟨A, HA⟩ : ∃ A, Hid ((l.any fun x => decide (100 < x.size)) = A) := ⟨_, rfl⟩
        rw [HA.out]
        go_enter Tryz.func21, Tryz.ntmps21
        go_wp2_with fail
        refine (HG.out _ (aBelow _ _)).mono ?_
        rintro e w1 ⟨rfl, hw⟩
        have hw := hw.symm
        subst hw
        go_wp2_with fail
        go_loopw [3] (fun i wr => ∃ k nq : Nat, k ≤ l.length ∧ i = .int .i64 k ∧ wr = (w.alloc (.cells #[.int .i64 g, .string n, .slice a m.length c, .slice b l.length d] 39)).drewN nq ∧ Hid (((l.take k).any fun x => decide (100 < x.size)) = false)) (fun i _ => l.length - (intOf i).toNat)
        case atStart => exact ⟨0, 0, Nat.zero_le _, rfl, rfl, rfl⟩
        case round =>
          obtain ⟨k, nq, hk, rfl, rfl, HT⟩ := hrel
          by_cases hlt : k < l.length
          · obtain ⟨b1, o, rfl, hb, hL⟩ := HL.out (ne_of_lt hlt)
            have e1 := (hL.on hb (aBelow w (.cells #[.int .i64 g, .string n, .slice a m.length c, .slice (some ⟨b1, o, none⟩) l.length d] 39))).at k hlt
            have i1 : (k : Int) < (l.length : Int) := by omega
            have i2 : (0 : Int) ≤ (k : Int) := by omega
            have z1 := HS.out _ (List.getElem_mem hlt)
            have HT2 : Hid (((l.take (k + 1)).any fun x => decide (100 < x.size)) = decide (100 < (l[k]).size)) := by
              show _ = _
              rw [List.take_succ_eq_append_getElem hlt, List.any_append, HT.out]
              simp
            have HF : Hid (decide (100 < (l[k]).size) = true → A = true) := by
              intro h
              show A = true
              rw [← HA.out, List.any_eq_true]
              exact ⟨_, List.getElem_mem hlt, h⟩
            generalize l[k] = x at *
            clear hL hb HL HS HT
            by_cases g1 : 100 < x.size
            · have g2 : (100 : Int) < (x.size : Int) := by omega
              have HF2 := Lib.hid (HF.out (decide_eq_true g1))
              clear HF HT2 g1
              go_wp2_with fail
              go_ret
              exact ⟨ret_bool (HF2.out).symm, below_drewN (aBelow _ _) _⟩
            · have g2 : ¬ (100 : Int) < (x.size : Int) := by omega
              have HN2 := Lib.hid ((HT2.out).trans (decide_eq_false g1))
              clear HF HT2 g1
              go_wp2_with fail
              exact ⟨⟨k + 1, _, by omega, by go_num, rfl, HN2⟩, by simp [intOf]; omega⟩
          · have HF : Hid (A = false) := by
              have h1 := HT.out
              rw [List.take_of_length_le (by omega)] at h1
              show A = false
              rw [← HA.out]
              exact h1
            go_wp2_with fail
            go_ret
            exact ⟨ret_bool (HF.out).symm, below_drewN (aBelow _ _) _⟩
    · go_enter Tryz.func21, Tryz.ntmps21
      go_wp2_with fail
      refine (HG.out _ (aBelow _ _)).mono ?_
      rintro e w1 ⟨rfl, hw⟩
      have hw := hw.symm
      subst hw
      go_wp2_with fail
      go_ret
      exact ⟨rfl, aBelow _ _⟩
end Go.Proofs.YtidkpalckafgkaaGreatDoor
namespace Go.Proofs.YtidkpalckafgkaaGreatDoor
open Go Go.RowKit Tg Pk Ky Qy
open Go Go.RowKit Tg Pk Ky Qy
theorem qright_eq (q : Query) : qright q = (decide (1 ≤ q.1) && (decide (q.1 ≤ 4) && (nmB q.2.1 && (pright q.2.2.1 && decide (byE q.2.2.2 = 0))))) := by
  unfold qright aggOk
  simp only [Bool.and_assoc]
set_option maxRecDepth 100000 in
set_option maxHeartbeats 1000000 in
theorem refQright_any (v : Value) (q : Query) (w : World) (h : QRow w v q) (hz : q.2.1.size ≤ 281474976710656) (hn : q.2.2.1.length ≤ 1000000) (hm : ∀ x ∈ q.2.2.1, x.2.1.size ≤ 281474976710656 ∧ x.2.2.size ≤ 281474976710656) (hn2 : q.2.2.2.length ≤ 1000000) (hb : ∀ x ∈ q.2.2.2, x.size ≤ 281474976710656) :
    Calls Tryz.prog 49 #[v] w fun e w' => e = .returned (.bool (qright q)) ∧ Below w.heap.size w w' := by
  obtain ⟨a, c, b, d, rfl, rm, rb⟩ := h.open
  clear h
  have H0 : Hid (∀ W, Calls Tryz.prog 60 #[.string q.2.1] W fun e w' => e = .returned (.bool (nmB q.2.1)) ∧ w' = W) := fun W => refName_any q.2.1 W (by omega)
  have H1 := Lib.hid (fun W (n : Below w.heap.size w W) => refRightM_any _ q.2.2.1 W (rm.on n) hn hm)
  have H2 := Lib.hid (fun W (n : Below w.heap.size w W) => refNames_any _ q.2.2.2 W (rb.on n) hn2 hb)
  rw [qright_eq]
  generalize pright q.2.2.1 = dm at *
  generalize nmB q.2.1 = dn at *
  clear rm rb hn hn2 hm hb hz
  by_cases g1 : 1 ≤ q.1
  · by_cases g2 : q.1 ≤ 4
    · rw [decide_eq_true g1, decide_eq_true g2, Bool.true_and, Bool.true_and]
      cases dn
      · go_enter Tryz.func49, Tryz.ntmps49
        go_wp2_with fail
        refine (H0.out _).mono ?_
        rintro e w1 ⟨rfl, hw⟩
        have hw := hw.symm
        subst hw
        go_wp2_with fail
        go_ret
        exact ⟨rfl, aBelow _ _⟩
      · cases dm
        · go_enter Tryz.func49, Tryz.ntmps49
          go_wp2_with fail
          refine (H0.out _).mono ?_
          rintro e w1 ⟨rfl, hw⟩
          have hw := hw.symm
          subst hw
          go_wp2_with fail
          refine (H1.out _ (aBelow _ _)).mono ?_
          rintro e w2 ⟨rfl, n2⟩
          have d2 := belowA n2
          go_wp2_with fail
          go_ret
          exact ⟨rfl, d2⟩
        · generalize byE q.2.2.2 = E at *
          by_cases g3 : E = 0
          all_goals
            have ge : (E == 0) = decide (E = 0) := by simp [g3]
            go_enter Tryz.func49, Tryz.ntmps49
            go_wp2_with fail
            refine (H0.out _).mono ?_
            rintro e w1 ⟨rfl, hw⟩
            have hw := hw.symm
            subst hw
            go_wp2_with fail
            refine (H1.out _ (aBelow _ _)).mono ?_
            rintro e w2 ⟨rfl, n2⟩
            have d2 := belowA n2
            have c3 := newC (i := 3) n2
            simp at c3
            clear n2
            go_wp2_with fail
            refine (H2.out _ d2).mono ?_
            rintro e w3 ⟨rfl, n3⟩
            have d3 := d2.trans (n3.mono d2.size)
            go_wp2_with fail
            go_ret
            exact ⟨by simp [g3], d3⟩
    · rw [decide_eq_true g1, decide_eq_false g2, Bool.true_and, Bool.false_and]
      go_enter Tryz.func49, Tryz.ntmps49
      go_wp2_with fail
      go_ret
      exact ⟨rfl, aBelow _ _⟩
  · rw [decide_eq_false g1, Bool.false_and]
    have g1 : q.1 < 1 := by omega
    go_enter Tryz.func49, Tryz.ntmps49
    go_wp2_with fail
    go_ret
    exact ⟨rfl, aBelow _ _⟩
def aggsO : Obj := .cells #[.string ⟨#[]⟩, .string ⟨#[99, 111, 117, 110, 116]⟩, .string ⟨#[115, 117, 109]⟩, .string ⟨#[109, 105, 110]⟩, .string ⟨#[109, 97, 120]⟩] 9
set_option maxRecDepth 100000 in
set_option maxHeartbeats 400000 in
theorem refAggs_any (w : World) :
    Calls Tryz.prog 95 #[] w fun e w' => e = .returned (.slice (some ⟨w.heap.size, 0, none⟩) 5 5) ∧ w' = w.alloc aggsO := by
  go_enter Tryz.func95, Tryz.ntmps95
  go_wp2
  go_ret
  exact ⟨rfl, rfl⟩
theorem aggs_at (w : World) : (w.alloc aggsO).cell? ⟨w.heap.size, 1, none⟩ = some (.string ⟨#[99, 111, 117, 110, 116]⟩) ∧ (w.alloc aggsO).cell? ⟨w.heap.size, 2, none⟩ = some (.string ⟨#[115, 117, 109]⟩) ∧ (w.alloc aggsO).cell? ⟨w.heap.size, 3, none⟩ = some (.string ⟨#[109, 105, 110]⟩) ∧ (w.alloc aggsO).cell? ⟨w.heap.size, 4, none⟩ = some (.string ⟨#[109, 97, 120]⟩) := by
  simp [aggsO]
def isAgg1 (s : ByteArray) : Bool := eqB ⟨#[99, 111, 117, 110, 116]⟩ s
def isAgg2 (s : ByteArray) : Bool := eqB ⟨#[115, 117, 109]⟩ s
def isAgg3 (s : ByteArray) : Bool := eqB ⟨#[109, 105, 110]⟩ s
def isAgg4 (s : ByteArray) : Bool := eqB ⟨#[109, 97, 120]⟩ s
theorem aggN_eq (s : ByteArray) : aggN s.data.toList = if isAgg1 s then 1 else if isAgg2 s then 2 else if isAgg3 s then 3 else if isAgg4 s then 4 else 0 := by
  have H : ∀ (l : List UInt8), ((l == s.data.toList) = true) = (s.data.toList = l) := fun l => by
    rw [beq_iff_eq]
    exact propext ⟨Eq.symm, Eq.symm⟩
  unfold aggN isAgg1 isAgg2 isAgg3 isAgg4 eqB
  simp only [H]
set_option maxRecDepth 100000 in
set_option maxHeartbeats 1000000 in
theorem refAgg_any (s : ByteArray) (w : World) :
    Calls Tryz.prog 58 #[.string s] w fun e w' => e = .returned (.int .i64 (aggN s.data.toList)) ∧ Below w.heap.size w w' := by
  rw [aggN_eq]
  obtain ⟨a1, a2, a3, a4⟩ := aggs_at w
  unfold isAgg1 isAgg2 isAgg3 isAgg4
  generalize (⟨#[99, 111, 117, 110, 116]⟩ : ByteArray) = t1 at *
  generalize (⟨#[115, 117, 109]⟩ : ByteArray) = t2 at *
  generalize (⟨#[109, 105, 110]⟩ : ByteArray) = t3 at *
  generalize (⟨#[109, 97, 120]⟩ : ByteArray) = t4 at *
  have q1 := beq_ba t1 s
  have q2 := beq_ba t2 s
  have q3 := beq_ba t3 s
  have q4 := beq_ba t4 s
  generalize eqB t1 s = p1 at *
  generalize eqB t2 s = p2 at *
  generalize eqB t3 s = p3 at *
  generalize eqB t4 s = p4 at *
  have d := aBelow w aggsO
  have HR := Lib.hid (refAggs_any w)
  generalize w.alloc aggsO = wa at *
  cases p1
  · cases p2
    · cases p3
      · cases p4
        · go_enter Tryz.func58, Tryz.ntmps58
          go_wp2_with fail
          refine (HR.out).mono ?_
          rintro e w1 ⟨rfl, hw⟩
          subst hw
          go_wp2_with fail
          refine wp_loop_rounds 5 ?_
          rw [rounds_succ]
          go_wp2_with fail
          rw [rounds_succ]
          go_wp2_with fail
          rw [rounds_succ]
          go_wp2_with fail
          rw [rounds_succ]
          go_wp2_with fail
          rw [rounds_succ]
          go_wp2_with fail
          go_ret
          exact ⟨rfl, d⟩
        · go_enter Tryz.func58, Tryz.ntmps58
          go_wp2_with fail
          refine (HR.out).mono ?_
          rintro e w1 ⟨rfl, hw⟩
          subst hw
          go_wp2_with fail
          refine wp_loop_rounds 4 ?_
          rw [rounds_succ]
          go_wp2_with fail
          rw [rounds_succ]
          go_wp2_with fail
          rw [rounds_succ]
          go_wp2_with fail
          rw [rounds_succ]
          go_wp2_with fail
          go_ret
          exact ⟨rfl, d⟩
      · go_enter Tryz.func58, Tryz.ntmps58
        go_wp2_with fail
        refine (HR.out).mono ?_
        rintro e w1 ⟨rfl, hw⟩
        subst hw
        go_wp2_with fail
        refine wp_loop_rounds 3 ?_
        rw [rounds_succ]
        go_wp2_with fail
        rw [rounds_succ]
        go_wp2_with fail
        rw [rounds_succ]
        go_wp2_with fail
        go_ret
        exact ⟨rfl, d⟩
    · go_enter Tryz.func58, Tryz.ntmps58
      go_wp2_with fail
      refine (HR.out).mono ?_
      rintro e w1 ⟨rfl, hw⟩
      subst hw
      go_wp2_with fail
      refine wp_loop_rounds 2 ?_
      rw [rounds_succ]
      go_wp2_with fail
      rw [rounds_succ]
      go_wp2_with fail
      go_ret
      exact ⟨rfl, d⟩
  · go_enter Tryz.func58, Tryz.ntmps58
    go_wp2_with fail
    refine (HR.out).mono ?_
    rintro e w1 ⟨rfl, hw⟩
    subst hw
    go_wp2_with fail
    refine wp_loop_rounds 1 ?_
    rw [rounds_succ]
    go_wp2_with fail
    go_ret
    exact ⟨rfl, d⟩
end Go.Proofs.YtidkpalckafgkaaGreatDoor
namespace Go.Proofs.YtidkpalckafgkaaGreatDoor
open Go Go.RowKit Tg Pk Ky Qy
theorem row_take {w : World} {a : Option Addr} {c : Nat} {l : List ByteArray} (h : l ≠ [] → ∃ b o, a = some ⟨b, o, none⟩ ∧ b < w.heap.size ∧ Lies w b o l) (k : Nat) (hk : k ≤ l.length) (hc : l.length ≤ c) : Row w (.slice a k c) (l.take k) := by
  have hl : (l.take k).length = k := by rw [List.length_take]; omega
  refine ⟨a, c, by rw [hl], by omega, fun hne => ?_⟩
  have hne2 : l ≠ [] := fun e => hne (by rw [e]; simp)
  obtain ⟨b, o, ha, hb, hL⟩ := h hne2
  refine ⟨b, o, ha, hb, fun j x hx => hL j x ?_⟩
  rw [List.getElem?_take] at hx
  split at hx
  · exact hx
  · cases hx
set_option maxRecDepth 100000 in
set_option maxHeartbeats 1000000 in
theorem twice_any (v : Value) (l : List ByteArray) (w : World) (h : Row w v l) (hn : l.length ≤ 1000000) :
    Calls Tryz.prog 122 #[v] w fun e w' => e = .returned (.bool (twice l)) ∧ Below w.heap.size w w' := by
  obtain ⟨a, c, rfl, hc, hl⟩ := h
  have HL := Lib.hid hl
  clear hl
  obtain ⟨A, HA⟩ : ∃ A, Hid (twice l = A) := ⟨_, rfl⟩
  rw [HA.out]
  go_enter Tryz.func122, Tryz.ntmps122
  go_wp2
  go_loopw [7] (fun i wr => ∃ (k nq : Nat), k ≤ l.length ∧ i = .int .i64 k ∧ wr = w.drewN nq ∧ Hid (twiceTo l k = false)) (fun i _ => l.length - (intOf i).toNat)
  case atStart => exact ⟨0, 0, Nat.zero_le _, rfl, rfl, rfl⟩
  case round =>
    obtain ⟨k, nq, hk, rfl, rfl, HT⟩ := hrel
    by_cases hlt : k < l.length
    · have HN : Hid (inTo l l[k] k = false → twiceTo l (k + 1) = false) := fun h => by
        show _ = false
        rw [twiceTo_succ, HT.out, seen_in hlt, h]
        rfl
      have HF : Hid (inTo l l[k] k = true → A = true) := fun h => by
        show A = true
        rw [← HA.out, twiceTo_true (k := k) (by rw [seen_in hlt]; exact h)]
      have hrow := row_take HL.out k hk hc
      have HC : Hid (∀ nq, Calls Tryz.prog 171 #[.slice a k c, .string l[k]] (w.drewN nq) fun e w' => e = .returned (.bool (inTo l l[k] k)) ∧ w' = w.drewN nq) := fun nq => contains_any _ (l.take k) l[k] (w.drewN nq) (hrow.on (below_drewN (Below.refl _ _) nq)) (by rw [List.length_take]; omega)
      obtain ⟨b, o, rfl, hb, hL⟩ := HL.out (ne_of_lt hlt)
      have e1 := hL.at k hlt
      have i1 : (k : Int) < (l.length : Int) := by omega
      have i2 : (0 : Int) ≤ (k : Int) := by omega
      have i3 : (k : Int) ≤ (c : Int) := by omega
      generalize l[k] = x at *
      clear hL hb HL HT hrow
      generalize inTo l x k = p at *
      cases p
      · have HN2 := Lib.hid (HN.out rfl)
        clear HF HN
        go_wp2_with (first | (go_at_call 171; refine (HC.out _).mono ?_; rintro e w' ⟨rfl, hw⟩; subst hw))
        exact ⟨⟨k + 1, _, by omega, by go_num, rfl, HN2⟩, by simp [intOf]; omega⟩
      · have HF2 := Lib.hid (HF.out rfl)
        clear HF HN
        go_wp2_with (first | (go_at_call 171; refine (HC.out _).mono ?_; rintro e w' ⟨rfl, hw⟩; subst hw))
        go_ret
        exact ⟨ret_bool (HF2.out).symm, ⟨rfl, rfl, rfl, Nat.le_refl _, fun _ _ => rfl⟩⟩
    · have HE : Hid (A = false) := by
        have h1 := HT.out
        have h2 : k = l.length := by omega
        rw [h2, twiceTo_all] at h1
        show A = false
        rw [← HA.out]
        exact h1
      clear HT HL
      go_wp2_with fail
      go_ret
      exact ⟨ret_bool (HE.out).symm, ⟨rfl, rfl, rfl, Nat.le_refl _, fun _ _ => rfl⟩⟩
set_option maxRecDepth 100000 in
set_option maxHeartbeats 1000000 in
theorem checkBy_any (v : Value) (l : List ByteArray) (w : World) (h : Row w v l) (hn : l.length ≤ 1000000) (hs : ∀ x ∈ l, x.size ≤ 281474976710656) :
    Calls Tryz.prog 83 #[v] w fun e w' => e = .returned (.int .i64 (byE l)) ∧ Below w.heap.size w w' := by
  have HTw := Lib.hid (twice_any v l w h hn)
  obtain ⟨a, c, rfl, hc, hl⟩ := h
  have HL := Lib.hid hl
  have HS := Lib.hid hs
  clear hl hs
  obtain ⟨C, HC⟩ : ∃ C, Hid (byE l = C) := ⟨_, rfl⟩
  rw [HC.out]
  go_enter Tryz.func83, Tryz.ntmps83
  go_wp2
  go_loop [7] (fun i => ∃ (k : Nat), k ≤ l.length ∧ i = .int .i64 k ∧ Hid ((l.take k).all nmB = true)) (fun i => l.length - (intOf i).toNat)
  case atStart => exact ⟨0, Nat.zero_le _, rfl, rfl⟩
  case round =>
    obtain ⟨k, hk, rfl, HT⟩ := hrel
    by_cases hlt : k < l.length
    · obtain ⟨b, o, rfl, hb, hL⟩ := HL.out (ne_of_lt hlt)
      have e1 := hL.at k hlt
      have i1 : (k : Int) < (l.length : Int) := by omega
      have i2 : (0 : Int) ≤ (k : Int) := by omega
      have z1 := HS.out _ (List.getElem_mem hlt)
      have HN : Hid (nmB l[k] = true → (l.take (k + 1)).all nmB = true) := fun h => by rw [allB_next hlt HT.out]; exact h
      have HF : Hid (nmB l[k] = false → C = 2) := fun h => by
        show C = _
        rw [← HC.out]
        exact byE_form (allB_not hlt h)
      have HB : Hid (∀ W, Calls Tryz.prog 81 #[.string l[k]] W fun e w' => e = .returned (.bool (nmB l[k])) ∧ w' = W) := fun W => name_any l[k] W (by omega)
      generalize l[k] = x at *
      clear hL hb HL HT HS HTw
      generalize nmB x = p at *
      cases p
      · have HF2 := Lib.hid (HF.out rfl)
        clear HF HN
        go_wp2_with (first | (go_at_call 81; refine (HB.out _).mono ?_; rintro e w1 ⟨rfl, rfl⟩))
        go_ret
        exact ⟨ret_i (HF2.out).symm, Below.refl _ _⟩
      · have HN2 := Lib.hid (HN.out rfl)
        clear HF HN
        go_wp2_with (first | (go_at_call 81; refine (HB.out _).mono ?_; rintro e w1 ⟨rfl, rfl⟩))
        exact ⟨⟨k + 1, by omega, by go_num, HN2⟩, by simp [intOf]; omega⟩
    · have HA : Hid (l.all nmB = true) := by
        have h1 := HT.out
        rw [List.take_of_length_le (by omega)] at h1
        exact h1
      clear HT
      by_cases h4 : 4 < l.length
      · have HM := Lib.hid ((HC.out).symm.trans (byE_many HA.out h4))
        clear HA HL HS HTw
        go_wp2_with fail
        go_ret
        exact ⟨ret_i (HM.out).symm, Below.refl _ _⟩
      · have HO4 := Lib.hid ((HC.out).symm.trans (byE_twice HA.out (by omega)))
        clear HA HC HL HS
        generalize twice l = p at *
        cases p
        · have HO5 : Hid (C = 0) := HO4.out
          clear HO4
          go_wp2_with fail
          refine (HTw.out).mono ?_
          rintro e w1 ⟨rfl, d1⟩
          go_wp2_with fail
          go_ret
          exact ⟨ret_i (HO5.out).symm, d1⟩
        · have HO5 : Hid (C = 5) := HO4.out
          clear HO4
          go_wp2_with fail
          refine (HTw.out).mono ?_
          rintro e w1 ⟨rfl, d1⟩
          go_wp2_with fail
          go_ret
          exact ⟨ret_i (HO5.out).symm, d1⟩
theorem aggB_ne (a : Int) : ((aggB a).toList == ([] : List UInt8)) = !aggOk a ∧ (aggB a).toList.isEmpty = !aggOk a := by
  have h := aggW_ok a
  have hl : (aggB a).toList = aggW a := by rw [ByteArray.toList_eq]; exact bb_list _
  rw [hl]
  cases ho : aggOk a
  · rw [h.2 ho]; decide
  · have hne : aggW a ≠ [] := fun e => by rw [h.1 e] at ho; cases ho
    cases hw : aggW a with
    | nil => exact absurd hw hne
    | cons _ _ => exact ⟨rfl, rfl⟩
set_option maxRecDepth 100000 in
set_option maxHeartbeats 1000000 in
theorem qright_any (v : Value) (q : Query) (w : World) (h : QRow w v q) (hz : q.2.1.size ≤ 281474976710656) (hn : q.2.2.1.length ≤ 1000000) (hm : ∀ x ∈ q.2.2.1, x.2.1.size ≤ 281474976710656 ∧ x.2.2.size ≤ 281474976710656) (hn2 : q.2.2.2.length ≤ 1000000) (hb : ∀ x ∈ q.2.2.2, x.size ≤ 281474976710656) :
    Calls Tryz.prog 45 #[v] w fun e w' => e = .returned (.bool (qright q)) ∧ Below w.heap.size w w' := by
  obtain ⟨a, c, b, d, rfl, rm, rb⟩ := h.open
  clear h
  have HW := Lib.hid (fun W => aggWord_any q.1 W)
  have H0 : Hid (∀ W, Calls Tryz.prog 81 #[.string q.2.1] W fun e w' => e = .returned (.bool (nmB q.2.1)) ∧ w' = W) := fun W => name_any q.2.1 W (by omega)
  have H1 := Lib.hid (fun W (n : Below w.heap.size w W) => rightM_any _ q.2.2.1 W (rm.on n) hn hm)
  have H2 := Lib.hid (fun W (n : Below w.heap.size w W) => checkBy_any _ q.2.2.2 W (rb.on n) hn2 hb)
  obtain ⟨a1, a2⟩ := aggB_ne q.1
  rw [show qright q = (aggOk q.1 && (nmB q.2.1 && (pright q.2.2.1 && decide (byE q.2.2.2 = 0)))) from by unfold qright; simp only [Bool.and_assoc]]
  generalize pright q.2.2.1 = dm at *
  generalize nmB q.2.1 = dn at *
  generalize aggOk q.1 = dk at *
  generalize aggB q.1 = t at *
  clear rm rb hn hn2 hm hb hz
  cases dk
  · go_enter Tryz.func45, Tryz.ntmps45
    go_wp2_with fail
    refine (HW.out _).mono ?_
    rintro e w1 ⟨rfl, hw⟩
    have hw := hw.symm
    subst hw
    go_wp2_with fail
    go_ret
    exact ⟨rfl, aBelow _ _⟩
  · cases dn
    · go_enter Tryz.func45, Tryz.ntmps45
      go_wp2_with fail
      refine (HW.out _).mono ?_
      rintro e w1 ⟨rfl, hw⟩
      have hw := hw.symm
      subst hw
      go_wp2_with fail
      refine (H0.out _).mono ?_
      rintro e w1 ⟨rfl, hw⟩
      have hw := hw.symm
      subst hw
      go_wp2_with fail
      go_ret
      exact ⟨rfl, aBelow _ _⟩
    · cases dm
      · go_enter Tryz.func45, Tryz.ntmps45
        go_wp2_with fail
        refine (HW.out _).mono ?_
        rintro e w1 ⟨rfl, hw⟩
        have hw := hw.symm
        subst hw
        go_wp2_with fail
        refine (H0.out _).mono ?_
        rintro e w1 ⟨rfl, hw⟩
        have hw := hw.symm
        subst hw
        go_wp2_with fail
        refine (H1.out _ (aBelow _ _)).mono ?_
        rintro e w2 ⟨rfl, n2⟩
        have d2 := belowA n2
        go_wp2_with fail
        go_ret
        exact ⟨rfl, d2⟩
      · generalize byE q.2.2.2 = E at *
        by_cases g3 : E = 0
        all_goals
          have ge : (E == 0) = decide (E = 0) := by simp [g3]
          go_enter Tryz.func45, Tryz.ntmps45
          go_wp2_with fail
          refine (HW.out _).mono ?_
          rintro e w1 ⟨rfl, hw⟩
          have hw := hw.symm
          subst hw
          go_wp2_with fail
          refine (H0.out _).mono ?_
          rintro e w1 ⟨rfl, hw⟩
          have hw := hw.symm
          subst hw
          go_wp2_with fail
          refine (H1.out _ (aBelow _ _)).mono ?_
          rintro e w2 ⟨rfl, n2⟩
          have d2 := belowA n2
          have c3 := newC (i := 3) n2
          simp at c3
          clear n2
          go_wp2_with fail
          refine (H2.out _ d2).mono ?_
          rintro e w3 ⟨rfl, n3⟩
          have d3 := d2.trans (n3.mono d2.size)
          go_wp2_with fail
          go_ret
          exact ⟨by simp [g3], d3⟩
end Go.Proofs.YtidkpalckafgkaaGreatDoor
namespace Go.Proofs.YtidkpalckafgkaaGreatDoor
open Go Go.RowKit Tg Pk Ky Qy
theorem only_small {l : List Tag} {ns : List ByteArray} (h : ∀ x ∈ l, x.1.size ≤ 100000 ∧ x.2.size ≤ 100000) (hn : l.length ≤ 1000) : (only l ns).length ≤ 1000 ∧ (∀ x ∈ only l ns, x.1.size ≤ 100000 ∧ x.2.size ≤ 100000) ∧ (textB (only l ns)).size ≤ 140737488355328 := by
  have h1 : (only l ns).length ≤ l.length := List.length_filter_le _ _
  have h2 : ∀ x ∈ only l ns, x.1.size ≤ 100000 ∧ x.2.size ≤ 100000 := fun x hx => h x (List.mem_filter.1 hx).1
  refine ⟨by omega, h2, ?_⟩
  have h3 := text_size (only l ns) 200001 (fun t ht => by have := h2 t ht; omega)
  have h4 : (only l ns).length * 200002 ≤ 1000 * 200002 := Nat.mul_le_mul_right _ (by omega)
  omega
set_option maxRecDepth 100000 in
set_option maxHeartbeats 1000000 in
theorem qfits_any (v1 v2 : Value) (q : Query) (k : Key) (w : World) (h1 : QRow w v1 q) (h2 : KRow w v2 k) (hn : q.2.2.1.length ≤ 1000000) (hm : k.2.length ≤ 1000000) :
    Calls Tryz.prog 129 #[v1, v2] w fun e w' => e = .returned (.bool (qfits q k)) ∧ Below w.heap.size w w' := by
  obtain ⟨a, c, b, d, rfl, rm, rb⟩ := h1.open
  obtain ⟨a', c', rfl, rt⟩ := h2.open
  clear h1 h2
  have H1 := fun W (n : Below w.heap.size w W) => fitsM_any _ _ k.2 q.2.2.1 W (rt.on n) (rm.on n) hn hm
  have Q1 := Lib.hid (beq_ba k.1 q.2.1)
  rw [show qfits q k = (eqB k.1 q.2.1 && pfits k.2 q.2.2.1) from rfl]
  generalize pfits k.2 q.2.2.1 = dm at *
  generalize eqB k.1 q.2.1 = dn at *
  have H1 := Lib.hid H1
  clear rm rb rt hn hm
  have q1 := Q1.out
  cases dn
  · go_enter Tryz.func129, Tryz.ntmps129
    go_wp2_with fail
    go_ret
    exact ⟨rfl, aBelow2 _ _ _⟩
  · go_enter Tryz.func129, Tryz.ntmps129
    go_wp2_with fail
    refine (H1.out _ (aBelow2 _ _ _)).mono ?_
    rintro e w2 ⟨rfl, n2⟩
    have d2 := belowA2 n2
    go_wp2_with fail
    go_ret
    exact ⟨by simp, d2⟩
set_option maxRecDepth 100000 in
set_option maxHeartbeats 1000000 in
theorem refQfits_any (v1 v2 : Value) (q : Query) (k : Key) (w : World) (h1 : QRow w v1 q) (h2 : KRow w v2 k) (hn : q.2.2.1.length ≤ 1000000) (hm : k.2.length ≤ 1000000) (hz : ∀ y ∈ k.2, y.1.size ≤ 281474976710656 ∧ y.2.size ≤ 281474976710656) (hs : ∀ x ∈ q.2.2.1, x.2.1.size ≤ 281474976710656 ∧ x.2.2.size ≤ 281474976710656) :
    Calls Tryz.prog 53 #[v1, v2] w fun e w' => e = .returned (.bool (qfits q k)) ∧ Below w.heap.size w w' := by
  obtain ⟨a, c, b, d, rfl, rm, rb⟩ := h1.open
  obtain ⟨a', c', rfl, rt⟩ := h2.open
  clear h1 h2
  have H1 := fun W (n : Below w.heap.size w W) => refFitsM_any _ _ k.2 q.2.2.1 W (rt.on n) (rm.on n) hn hm hz hs
  have Q1 := Lib.hid (beq_ba k.1 q.2.1)
  rw [show qfits q k = (eqB k.1 q.2.1 && pfits k.2 q.2.2.1) from rfl]
  generalize pfits k.2 q.2.2.1 = dm at *
  generalize eqB k.1 q.2.1 = dn at *
  have H1 := Lib.hid H1
  clear rm rb rt hn hm
  have q1 := Q1.out
  cases dn
  · go_enter Tryz.func53, Tryz.ntmps53
    go_wp2_with fail
    go_ret
    exact ⟨rfl, aBelow2 _ _ _⟩
  · go_enter Tryz.func53, Tryz.ntmps53
    go_wp2_with fail
    refine (H1.out _ (aBelow2 _ _ _)).mono ?_
    rintro e w2 ⟨rfl, n2⟩
    have d2 := belowA2 n2
    go_wp2_with fail
    go_ret
    exact ⟨by simp, d2⟩
set_option maxRecDepth 100000 in
set_option maxHeartbeats 1000000 in
theorem qgroup_any (v1 v2 : Value) (q : Query) (k : Key) (w : World) (h1 : QRow w v1 q) (h2 : KRow w v2 k) (hn : q.2.2.2.length ≤ 1000000) (hm : k.2.length ≤ 1000) (hz : ∀ y ∈ k.2, y.1.size ≤ 100000 ∧ y.2.size ≤ 100000) :
    Calls Tryz.prog 86 #[v1, v2] w fun e w' => e = .returned (.string (textB (only k.2 q.2.2.2))) ∧ Below w.heap.size w w' := by
  obtain ⟨a, c, b, d, rfl, rm, rb⟩ := h1.open
  obtain ⟨a', c', rfl, rt⟩ := h2.open
  clear h1 h2
  obtain ⟨o1, o2, o3⟩ := only_small (ns := q.2.2.2) hz hm
  have H1 := Lib.hid (fun W (n : Below w.heap.size w W) => only_any _ _ k.2 q.2.2.2 W (rt.on n) (rb.on n) (by omega) hn)
  have H2 := Lib.hid (fun v W (h : TRow W v (only k.2 q.2.2.2)) => text_any v _ W h o1 o2 o3)
  clear rm rb rt hn hm hz o1 o2 o3
  generalize only k.2 q.2.2.2 = O at *
  go_enter Tryz.func86, Tryz.ntmps86
  go_wp2_with fail
  refine (H1.out _ (aBelow2 _ _ _)).mono ?_
  rintro e w2 ⟨⟨v', rfl, rO⟩, n2⟩
  have d2 := belowA2 n2
  clear n2
  go_wp2_with fail
  refine (H2.out _ _ rO).mono ?_
  rintro e w3 ⟨rfl, n3⟩
  have d3 := d2.trans (n3.mono d2.size)
  go_wp2_with fail
  go_ret
  exact ⟨rfl, d3⟩
set_option maxRecDepth 100000 in
set_option maxHeartbeats 1000000 in
theorem refQgroup_any (v1 v2 : Value) (q : Query) (k : Key) (w : World) (h1 : QRow w v1 q) (h2 : KRow w v2 k) (hn : q.2.2.2.length ≤ 1000000) (hm : k.2.length ≤ 1000) (hz : ∀ y ∈ k.2, y.1.size ≤ 100000 ∧ y.2.size ≤ 100000) :
    Calls Tryz.prog 55 #[v1, v2] w fun e w' => e = .returned (.string (textB (only k.2 q.2.2.2))) ∧ Below w.heap.size w w' := by
  obtain ⟨a, c, b, d, rfl, rm, rb⟩ := h1.open
  obtain ⟨a', c', rfl, rt⟩ := h2.open
  clear h1 h2
  obtain ⟨o1, o2, o3⟩ := only_small (ns := q.2.2.2) hz hm
  have H1 := Lib.hid (fun W (n : Below w.heap.size w W) => refOnly_any _ _ k.2 q.2.2.2 W (rt.on n) (rb.on n) (by omega) hn)
  have H2 := Lib.hid (fun v W (h : TRow W v (only k.2 q.2.2.2)) => refText_any v _ W h o1 o2 o3)
  clear rm rb rt hn hm hz o1 o2 o3
  generalize only k.2 q.2.2.2 = O at *
  go_enter Tryz.func55, Tryz.ntmps55
  go_wp2_with fail
  refine (H1.out _ (aBelow2 _ _ _)).mono ?_
  rintro e w2 ⟨⟨v', rfl, rO⟩, n2⟩
  have d2 := belowA2 n2
  clear n2
  go_wp2_with fail
  refine (H2.out _ _ rO).mono ?_
  rintro e w3 ⟨rfl, n3⟩
  have d3 := d2.trans (n3.mono d2.size)
  go_wp2_with fail
  go_ret
  exact ⟨rfl, d3⟩
end Go.Proofs.YtidkpalckafgkaaGreatDoor
