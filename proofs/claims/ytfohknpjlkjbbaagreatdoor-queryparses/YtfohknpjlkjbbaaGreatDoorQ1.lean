/- Walks: texts held against each other (the document's Same, the library's Equal), what an agg is called, queries as values. -/
import Derived.Test.YtfohknpjlkjbbaaGreatDoorR0
import Derived.Test.YtfohknpjlkjbbaaGreatDoorM5
namespace Go.Proofs.YtfohknpjlkjbbaaGreatDoor
open Go Go.RowKit Tg Pk Ky Qy

theorem takeB_on {l m : List ByteArray} {k : Nat} (h1 : k < l.length) (h2 : k < m.length) (h : l.take k = m.take k) (he : eqB l[k] m[k] = true) : l.take (k + 1) = m.take (k + 1) := by
  rw [List.take_succ_eq_append_getElem h1, List.take_succ_eq_append_getElem h2, h, (eqB_true _ _).1 he]
theorem takeB_off {l m : List ByteArray} {k : Nat} (h1 : k < l.length) (h2 : k < m.length) (he : eqB l[k] m[k] = false) : decide (l = m) = false := by
  rw [decide_eq_false_iff_not]
  rintro rfl
  have := (eqB_true l[k] l[k]).2 rfl
  rw [this] at he
  cases he
/-- The place of a slice's cells. -/
def RAt (w : World) (a : Option Addr) (l : List ByteArray) : Prop := l ≠ [] → ∃ b o, a = some ⟨b, o, none⟩ ∧ b < w.heap.size ∧ Lies w b o l

set_option maxHeartbeats 400000 in
theorem refSameB_cells (a1 a2 : Option Addr) (c1 c2 : Nat) (l m : List ByteArray) (w : World) (h1 : RAt w a1 l) (h2 : RAt w a2 m) (hn : l.length ≤ 1000000) :
    Calls Tryz.prog 39 #[.slice a1 l.length c1, .slice a2 m.length c2] w fun e w' => e = .returned (.bool (decide (l = m))) ∧ Below w.heap.size w w' := by
  have H1 := Lib.hid h1
  have H2 := Lib.hid h2
  clear h1 h2
  by_cases hlm : l.length = m.length
  · obtain ⟨A, HA⟩ : ∃ A, Hid (decide (l = m) = A) := ⟨_, rfl⟩
    rw [HA.out]
    rw [← hlm]
    have HLM := Lib.hid hlm
    clear hlm
    go_enter Tryz.func39, Tryz.ntmps39
    go_wp2
    go_loopw [5] (fun i wr => ∃ k nq : Nat, k ≤ l.length ∧ i = .int .i64 k ∧ wr = w.drewN nq ∧ Hid (l.take k = m.take k)) (fun i _ => l.length - (intOf i).toNat)
    case atStart => exact ⟨0, 0, Nat.zero_le _, rfl, rfl, rfl⟩
    case round =>
      obtain ⟨k, nq, hk, rfl, rfl, HT⟩ := hrel
      by_cases hlt : k < l.length
      · have hlt2 : k < m.length := by have := HLM.out; omega
        obtain ⟨b1, o1, rfl, hb1, hL1⟩ := H1.out (ne_of_lt hlt)
        obtain ⟨b2, o2, rfl, hb2, hL2⟩ := H2.out (ne_of_lt hlt2)
        have e1 := hL1.at k hlt
        have e3 := hL2.at k hlt2
        have i1 : (k : Int) < (l.length : Int) := by omega
        have i2 : (0 : Int) ≤ (k : Int) := by omega
        have HN : Hid (eqB l[k] m[k] = true → l.take (k + 1) = m.take (k + 1)) := fun h => takeB_on hlt hlt2 HT.out h
        have HF : Hid (eqB l[k] m[k] = false → A = false) := fun h => (HA.out).symm.trans (takeB_off hlt hlt2 h)
        generalize l[k] = x at *
        generalize m[k] = y at *
        have Q1 := Lib.hid (beq_ba x y)
        generalize eqB x y = p at *
        clear hL1 hL2 hb1 hb2 H1 H2 HT hlt2
        cases p
        · have q1 := Q1.out
          have HF2 := Lib.hid (HF.out rfl)
          clear HF HN
          go_wp2_with fail
          go_quiet (fail)
          go_wp2_with fail
          go_ret
          exact ⟨ret_bool (HF2.out).symm, ⟨rfl, rfl, rfl, Nat.le_refl _, fun _ _ => rfl⟩⟩
        · have q1 := Q1.out
          have HN2 := Lib.hid (HN.out rfl)
          clear HF HN
          go_wp2_with fail
          go_quiet (fail)
          go_wp2_with fail
          exact ⟨⟨k + 1, _, by omega, by go_num, rfl, HN2⟩, by simp [intOf]; omega⟩
      · have HT2 : Hid (A = true) := by
          have h1 := HT.out
          have h2 := HLM.out
          rw [List.take_of_length_le (by omega), List.take_of_length_le (by omega)] at h1
          show A = true
          rw [← HA.out]
          exact decide_eq_true h1
        go_wp2
        go_ret
        exact ⟨ret_bool (HT2.out).symm, ⟨rfl, rfl, rfl, Nat.le_refl _, fun _ _ => rfl⟩⟩
  · have hd : decide (l = m) = false := decide_eq_false fun e => hlm (by rw [e])
    rw [hd]
    have i1 : ¬ (l.length : Int) = (m.length : Int) := by omega
    go_enter Tryz.func39, Tryz.ntmps39
    go_wp2
    go_ret
    exact ⟨rfl, Below.refl _ _⟩
theorem refSameB_any (v1 v2 : Value) (l m : List ByteArray) (w : World) (h1 : Row w v1 l) (h2 : Row w v2 m) (hn : l.length ≤ 1000000) :
    Calls Tryz.prog 39 #[v1, v2] w fun e w' => e = .returned (.bool (decide (l = m))) ∧ Below w.heap.size w w' := by
  obtain ⟨a1, c1, rfl, hc1, hl1⟩ := h1
  obtain ⟨a2, c2, rfl, hc2, hl2⟩ := h2
  exact refSameB_cells a1 a2 c1 c2 l m w hl1 hl2 hn
set_option maxHeartbeats 400000 in
theorem equalB_cells (a1 a2 : Option Addr) (c1 c2 : Nat) (l m : List ByteArray) (w : World) (h1 : RAt w a1 l) (h2 : RAt w a2 m) (hn : l.length ≤ 1000000) :
    Calls Tryz.prog 37 #[.slice a1 l.length c1, .slice a2 m.length c2] w fun e w' => e = .returned (.bool (decide (l = m))) ∧ Below w.heap.size w w' := by
  have H1 := Lib.hid h1
  have H2 := Lib.hid h2
  clear h1 h2
  by_cases hlm : l.length = m.length
  · obtain ⟨A, HA⟩ : ∃ A, Hid (decide (l = m) = A) := ⟨_, rfl⟩
    rw [HA.out]
    rw [← hlm]
    have HLM := Lib.hid hlm
    clear hlm
    go_enter Tryz.func37, Tryz.ntmps37
    go_wp2
    go_loopw [13] (fun i wr => ∃ k nq : Nat, k ≤ l.length ∧ i = .int .i64 k ∧ wr = w.drewN nq ∧ Hid (l.take k = m.take k)) (fun i _ => l.length - (intOf i).toNat)
    case atStart => exact ⟨0, 0, Nat.zero_le _, rfl, rfl, rfl⟩
    case round =>
      obtain ⟨k, nq, hk, rfl, rfl, HT⟩ := hrel
      by_cases hlt : k < l.length
      · have hlt2 : k < m.length := by have := HLM.out; omega
        obtain ⟨b1, o1, rfl, hb1, hL1⟩ := H1.out (ne_of_lt hlt)
        obtain ⟨b2, o2, rfl, hb2, hL2⟩ := H2.out (ne_of_lt hlt2)
        have e1 := hL1.at k hlt
        have e3 := hL2.at k hlt2
        have i1 : (k : Int) < (l.length : Int) := by omega
        have i2 : (0 : Int) ≤ (k : Int) := by omega
        have HN : Hid (eqB l[k] m[k] = true → l.take (k + 1) = m.take (k + 1)) := fun h => takeB_on hlt hlt2 HT.out h
        have HF : Hid (eqB l[k] m[k] = false → A = false) := fun h => (HA.out).symm.trans (takeB_off hlt hlt2 h)
        generalize l[k] = x at *
        generalize m[k] = y at *
        have Q1 := Lib.hid (beq_ba x y)
        generalize eqB x y = p at *
        clear hL1 hL2 hb1 hb2 H1 H2 HT hlt2
        cases p
        · have q1 := Q1.out
          have HF2 := Lib.hid (HF.out rfl)
          clear HF HN
          go_wp2_with fail
          go_quiet (fail)
          go_wp2_with fail
          go_ret
          exact ⟨ret_bool (HF2.out).symm, ⟨rfl, rfl, rfl, Nat.le_refl _, fun _ _ => rfl⟩⟩
        · have q1 := Q1.out
          have HN2 := Lib.hid (HN.out rfl)
          clear HF HN
          go_wp2_with fail
          go_quiet (fail)
          go_wp2_with fail
          exact ⟨⟨k + 1, _, by omega, by go_num, rfl, HN2⟩, by simp [intOf]; omega⟩
      · have HT2 : Hid (A = true) := by
          have h1 := HT.out
          have h2 := HLM.out
          rw [List.take_of_length_le (by omega), List.take_of_length_le (by omega)] at h1
          show A = true
          rw [← HA.out]
          exact decide_eq_true h1
        go_wp2
        go_ret
        exact ⟨ret_bool (HT2.out).symm, ⟨rfl, rfl, rfl, Nat.le_refl _, fun _ _ => rfl⟩⟩
  · have hd : decide (l = m) = false := decide_eq_false fun e => hlm (by rw [e])
    rw [hd]
    have i1 : ¬ (l.length : Int) = (m.length : Int) := by omega
    go_enter Tryz.func37, Tryz.ntmps37
    go_wp2
    go_ret
    exact ⟨rfl, Below.refl _ _⟩
theorem equalB_any (v1 v2 : Value) (l m : List ByteArray) (w : World) (h1 : Row w v1 l) (h2 : Row w v2 m) (hn : l.length ≤ 1000000) :
    Calls Tryz.prog 37 #[v1, v2] w fun e w' => e = .returned (.bool (decide (l = m))) ∧ Below w.heap.size w w' := by
  obtain ⟨a1, c1, rfl, hc1, hl1⟩ := h1
  obtain ⟨a2, c2, rfl, hc2, hl2⟩ := h2
  exact equalB_cells a1 a2 c1 c2 l m w hl1 hl2 hn

/-- What an agg is called, as a text. -/
def aggB (a : Int) : ByteArray := bb (aggW a)
theorem aggs5 (k : Int) : k = 1 ∨ k = 2 ∨ k = 3 ∨ k = 4 ∨ (¬ k = 1 ∧ ¬ k = 2 ∧ ¬ k = 3 ∧ ¬ k = 4) := by omega
theorem aggB1 : aggB 1 = ⟨#[99, 111, 117, 110, 116]⟩ := rfl
theorem aggB2 : aggB 2 = ⟨#[115, 117, 109]⟩ := rfl
theorem aggB3 : aggB 3 = ⟨#[109, 105, 110]⟩ := rfl
theorem aggB4 : aggB 4 = ⟨#[109, 97, 120]⟩ := rfl
theorem aggB5 (k : Int) (h1 : ¬ k = 1) (h2 : ¬ k = 2) (h3 : ¬ k = 3) (h4 : ¬ k = 4) : aggB k = ⟨#[]⟩ := by unfold aggB aggW; simp [h1, h2, h3, h4, bb]
set_option maxHeartbeats 400000 in
theorem aggWord_any (a : Int) (w : World) :
    Calls Tryz.prog 24 #[.int .i64 a] w fun e w' => e = .returned (.string (aggB a)) ∧ w' = w := by
  rcases aggs5 a with rfl | rfl | rfl | rfl | ⟨k1, k2, k3, k4⟩
  · rw [aggB1]
    go_enter Tryz.func24, Tryz.ntmps24
    go_wp2
    go_ret
    exact ⟨rfl, rfl⟩
  · rw [aggB2]
    go_enter Tryz.func24, Tryz.ntmps24
    go_wp2
    go_ret
    exact ⟨rfl, rfl⟩
  · rw [aggB3]
    go_enter Tryz.func24, Tryz.ntmps24
    go_wp2
    go_ret
    exact ⟨rfl, rfl⟩
  · rw [aggB4]
    go_enter Tryz.func24, Tryz.ntmps24
    go_wp2
    go_ret
    exact ⟨rfl, rfl⟩
  · rw [aggB5 a k1 k2 k3 k4]
    go_enter Tryz.func24, Tryz.ntmps24
    go_wp2
    go_ret
    exact ⟨rfl, rfl⟩

/-- The value v is the query q: its agg, its name, a slice that holds its matches and one that holds its names behind by. -/
def QRow (w : World) (v : Value) (q : Query) : Prop := ∃ m b, v = .agg #[.int .i64 q.1, .string q.2.1, m, b] ∧ MRow w m q.2.2.1 ∧ Row w b q.2.2.2
theorem QRow.on {w w1 : World} {v : Value} {q : Query} (h : QRow w v q) (n : Below w.heap.size w w1) : QRow w1 v q := by
  obtain ⟨m, b, hv, hm, hb⟩ := h
  exact ⟨m, b, hv, hm.on n, hb.on n⟩
theorem Row.nil (w : World) : Row w (.slice none 0 0) [] := ⟨none, 0, rfl, Nat.le_refl _, fun h => absurd rfl h⟩
theorem qnone_row (w : World) : QRow w (.agg #[.int .i64 0, .string ⟨#[]⟩, .slice none 0 0, .slice none 0 0]) qnone := ⟨_, _, rfl, MRow.nil w, Row.nil w⟩
theorem QRow.open {w : World} {v : Value} {q : Query} (h : QRow w v q) : ∃ a c b d, v = .agg #[.int .i64 q.1, .string q.2.1, .slice a q.2.2.1.length c, .slice b q.2.2.2.length d] ∧ MRow w (.slice a q.2.2.1.length c) q.2.2.1 ∧ Row w (.slice b q.2.2.2.length d) q.2.2.2 := by
  obtain ⟨m, n, rfl, ⟨a, c, rfl, hc, hat⟩, ⟨b, d, rfl, hd, hbt⟩⟩ := h
  exact ⟨a, c, b, d, rfl, ⟨a, c, rfl, hc, hat⟩, ⟨b, d, rfl, hd, hbt⟩⟩
theorem QRow.shut {w : World} {a b : Option Addr} {c d : Nat} {q : Query} (h : MRow w (.slice a q.2.2.1.length c) q.2.2.1) (h' : Row w (.slice b q.2.2.2.length d) q.2.2.2) : QRow w (.agg #[.int .i64 q.1, .string q.2.1, .slice a q.2.2.1.length c, .slice b q.2.2.2.length d]) q := ⟨_, _, rfl, h, h'⟩
end Go.Proofs.YtfohknpjlkjbbaaGreatDoor
