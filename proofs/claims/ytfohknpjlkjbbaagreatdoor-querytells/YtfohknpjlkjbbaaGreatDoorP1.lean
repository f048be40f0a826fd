/- Walks: slices of matches that lie in memory; the document's Great and Same, the library's Equal at matches, the program's Same. -/
import Derived.Test.YtfohknpjlkjbbaaGreatDoorT1
import Derived.Test.YtfohknpjlkjbbaaGreatDoorM3
namespace Go.Proofs.YtfohknpjlkjbbaaGreatDoor
open Go Go.RowKit Tg Pk

/-- The matches l lie in block b from offset o on. -/
def MLies (w : World) (b o : Nat) (l : List Match) : Prop :=
  ∀ i (h : i < l.length), w.cell? ⟨b, o + i * 3, none⟩ = some (.int .i64 (l[i]).1) ∧ w.cell? ⟨b, o + i * 3 + 1, none⟩ = some (.string (l[i]).2.1) ∧ w.cell? ⟨b, o + i * 3 + 2, none⟩ = some (.string (l[i]).2.2)
theorem MLies.on {w w1 : World} {b o : Nat} {l : List Match} (h : MLies w b o l) (hb : b < w.heap.size) (n : Below w.heap.size w w1) : MLies w1 b o l := by
  intro i hi
  rw [n.cell (p := ⟨b, o + i * 3, none⟩) hb, n.cell (p := ⟨b, o + i * 3 + 1, none⟩) hb, n.cell (p := ⟨b, o + i * 3 + 2, none⟩) hb]
  exact h i hi
/-- What stands behind the slice's address a. -/
def MAt (w : World) (a : Option Addr) (l : List Match) : Prop := l ≠ [] → ∃ b o, a = some ⟨b, o, none⟩ ∧ b < w.heap.size ∧ MLies w b o l
theorem MAt.on {w w1 : World} {a : Option Addr} {l : List Match} (h : MAt w a l) (n : Below w.heap.size w w1) : MAt w1 a l := by
  intro hne
  obtain ⟨b, o, ha, hb, hL⟩ := h hne
  exact ⟨b, o, ha, Nat.lt_of_lt_of_le hb n.size, hL.on hb n⟩
/-- The value v is a slice that holds the matches l. -/
def MRow (w : World) (v : Value) (l : List Match) : Prop := ∃ a c, v = .slice a l.length c ∧ l.length ≤ c ∧ MAt w a l
theorem MRow.on {w w1 : World} {v : Value} {l : List Match} (h : MRow w v l) (n : Below w.heap.size w w1) : MRow w1 v l := by
  obtain ⟨a, c, hv, hc, hl⟩ := h
  exact ⟨a, c, hv, hc, hl.on n⟩
theorem MRow.nil (w : World) : MRow w (.slice none 0 0) [] := ⟨none, 0, rfl, Nat.le_refl _, fun h => absurd rfl h⟩

def greatM (l : List Match) : Bool := decide (20 < l.length) || l.any fun t => decide (100 < t.2.1.size) || decide (100 < t.2.2.size)
set_option maxHeartbeats 400000 in
theorem greatM_any (v : Value) (l : List Match) (w : World) (h : MRow w v l) (hs : ∀ x ∈ l, x.2.1.size ≤ 281474976710656 ∧ x.2.2.size ≤ 281474976710656) :
    Calls Tryz.prog 23 #[v] w fun e w' => e = .returned (.bool (greatM l)) ∧ w' = w := by
  obtain ⟨a, c, rfl, hc, hl⟩ := h
  by_cases hn : 20 < l.length
  · have hv : greatM l = true := by simp [greatM, hn]
    rw [hv]
    clear hv hl hs
    go_enter Tryz.func23, Tryz.ntmps23
    go_wp2
    go_ret
    exact ⟨rfl, rfl⟩
  · have hv : greatM l = l.any fun t => decide (100 < t.2.1.size) || decide (100 < t.2.2.size) := by simp [greatM, hn]
    rw [hv]
    clear hv
    have HL := Lib.hid hl
    have HS := Lib.hid hs
    clear hl hs
    obtain ⟨A, HA⟩ : ∃ A, Hid ((l.any fun t => decide (100 < t.2.1.size) || decide (100 < t.2.2.size)) = A) := ⟨_, rfl⟩
    rw [HA.out]
    go_enter Tryz.func23, Tryz.ntmps23
    go_wp2
    go_loop [3] (fun i => ∃ (k : Nat), k ≤ l.length ∧ i = .int .i64 k ∧ Hid (((l.take k).any fun t => decide (100 < t.2.1.size) || decide (100 < t.2.2.size)) = false)) (fun i => l.length - (intOf i).toNat)
    case atStart => exact ⟨0, Nat.zero_le _, rfl, rfl⟩
    case round =>
      obtain ⟨k, hk, rfl, HT⟩ := hrel
      by_cases hlt : k < l.length
      · obtain ⟨b, o, rfl, hb, hL⟩ := HL.out (ne_of_lt hlt)
        obtain ⟨e0, e1, e2⟩ := hL k hlt
        have i1 : (k : Int) < (l.length : Int) := by omega
        have i2 : (0 : Int) ≤ (k : Int) := by omega
        obtain ⟨z1, z2⟩ := HS.out _ (List.getElem_mem hlt)
        have HT2 : Hid (((l.take (k + 1)).any fun t => decide (100 < t.2.1.size) || decide (100 < t.2.2.size)) = (decide (100 < (l[k]).2.1.size) || decide (100 < (l[k]).2.2.size))) := by
          show _ = _
          rw [List.take_succ_eq_append_getElem hlt, List.any_append, HT.out]
          simp
        have HF : Hid ((decide (100 < (l[k]).2.1.size) || decide (100 < (l[k]).2.2.size)) = true → A = true) := by
          intro h
          show A = true
          rw [← HA.out, List.any_eq_true]
          exact ⟨_, List.getElem_mem hlt, h⟩
        generalize l[k] = x at *
        clear hL hb HL HS HT
        by_cases g1 : 100 < x.2.1.size
        · go_wp2_with fail
          go_ret
          exact ⟨ret_bool (HF.out (by simp [g1])).symm, rfl⟩
        · by_cases g2 : 100 < x.2.2.size
          · go_wp2_with fail
            go_ret
            exact ⟨ret_bool (HF.out (by simp [g2])).symm, rfl⟩
          · go_wp2_with fail
            exact ⟨⟨k + 1, by omega, by go_num, by show _ = _; rw [HT2.out]; simp [g1, g2]⟩, by simp [intOf]; omega⟩
      · have HF : Hid (A = false) := by
          have h1 := HT.out
          rw [List.take_of_length_le (by omega)] at h1
          show A = false
          rw [← HA.out]
          exact h1
        go_wp2_with fail
        go_ret
        exact ⟨ret_bool (HF.out).symm, rfl⟩

def eqM (x y : Match) : Bool := decide (x.1 = y.1) && (eqB x.2.1 y.2.1 && eqB x.2.2 y.2.2)
theorem eqM_true (x y : Match) : eqM x y = true ↔ x = y := by
  unfold eqM
  rw [Bool.and_eq_true, Bool.and_eq_true, eqB_true, eqB_true, decide_eq_true_eq]
  constructor
  · rintro ⟨h0, h1, h2⟩
    exact Prod.ext h0 (Prod.ext h1 h2)
  · rintro rfl
    exact ⟨rfl, rfl, rfl⟩
theorem takeM_on {l m : List Match} {k : Nat} (h1 : k < l.length) (h2 : k < m.length) (h : l.take k = m.take k) (he : eqM l[k] m[k] = true) : l.take (k + 1) = m.take (k + 1) := by
  rw [List.take_succ_eq_append_getElem h1, List.take_succ_eq_append_getElem h2, h, (eqM_true _ _).1 he]
theorem takeM_off {l m : List Match} {k : Nat} (h1 : k < l.length) (h2 : k < m.length) (he : eqM l[k] m[k] = false) : decide (l = m) = false := by
  rw [decide_eq_false_iff_not]
  rintro rfl
  have := (eqM_true l[k] l[k]).2 rfl
  rw [this] at he
  cases he

set_option maxHeartbeats 1000000 in
theorem refSame_cells (a1 a2 : Option Addr) (c1 c2 : Nat) (l m : List Match) (w : World) (h1 : MAt w a1 l) (h2 : MAt w a2 m) (hn : l.length ≤ 1000000) :
    Calls Tryz.prog 38 #[.slice a1 l.length c1, .slice a2 m.length c2] w fun e w' => e = .returned (.bool (decide (l = m))) ∧ Below w.heap.size w w' := by
  have H1 := Lib.hid h1
  have H2 := Lib.hid h2
  clear h1 h2
  by_cases hlm : l.length = m.length
  · obtain ⟨A, HA⟩ : ∃ A, Hid (decide (l = m) = A) := ⟨_, rfl⟩
    rw [HA.out]
    rw [← hlm]
    have HLM := Lib.hid hlm
    clear hlm
    go_enter Tryz.func38, Tryz.ntmps38
    go_wp2
    go_loopw [5] (fun i wr => ∃ k nq : Nat, k ≤ l.length ∧ i = .int .i64 k ∧ wr = w.drewN nq ∧ Hid (l.take k = m.take k)) (fun i _ => l.length - (intOf i).toNat)
    case atStart => exact ⟨0, 0, Nat.zero_le _, rfl, rfl, rfl⟩
    case round =>
      obtain ⟨k, nq, hk, rfl, rfl, HT⟩ := hrel
      by_cases hlt : k < l.length
      · have hlt2 : k < m.length := by have := HLM.out; omega
        obtain ⟨b1, o1, rfl, hb1, hL1⟩ := H1.out (ne_of_lt hlt)
        obtain ⟨b2, o2, rfl, hb2, hL2⟩ := H2.out (ne_of_lt hlt2)
        obtain ⟨d1, e1, e2⟩ := hL1 k hlt
        obtain ⟨d3, e3, e4⟩ := hL2 k hlt2
        have i1 : (k : Int) < (l.length : Int) := by omega
        have i2 : (0 : Int) ≤ (k : Int) := by omega
        have HN : Hid (eqM l[k] m[k] = true → l.take (k + 1) = m.take (k + 1)) := fun h => takeM_on hlt hlt2 HT.out h
        have HF : Hid (eqM l[k] m[k] = false → A = false) := fun h => (HA.out).symm.trans (takeM_off hlt hlt2 h)
        generalize l[k] = x at *
        generalize m[k] = y at *
        have Q0 : Hid ((x.1 == y.1) = decide (x.1 = y.1)) := by show _ = _; by_cases h : x.1 = y.1 <;> simp [h]
        have Q1 := Lib.hid (beq_ba x.2.1 y.2.1)
        have Q2 := Lib.hid (beq_ba x.2.2 y.2.2)
        unfold eqM at HN HF
        generalize decide (x.1 = y.1) = r at *
        generalize eqB x.2.1 y.2.1 = p at *
        generalize eqB x.2.2 y.2.2 = q at *
        clear hL1 hL2 hb1 hb2 H1 H2 HT hlt2
        have q0 := Q0.out
        have q1 := Q1.out
        have q2 := Q2.out
        cases r
        · have HF := Lib.hid (HF.out rfl)
          go_wp2_with fail
          go_quiet (fail)
          go_wp2_with fail
          go_ret
          exact ⟨ret_bool (HF.out).symm, ⟨rfl, rfl, rfl, Nat.le_refl _, fun _ _ => rfl⟩⟩
        · cases p
          · have HF := Lib.hid (HF.out rfl)
            go_wp2_with fail
            go_quiet (fail)
            go_wp2_with fail
            go_ret
            exact ⟨ret_bool (HF.out).symm, ⟨rfl, rfl, rfl, Nat.le_refl _, fun _ _ => rfl⟩⟩
          · cases q
            · have HF := Lib.hid (HF.out rfl)
              go_wp2_with fail
              go_quiet (fail)
              go_wp2_with fail
              go_ret
              exact ⟨ret_bool (HF.out).symm, ⟨rfl, rfl, rfl, Nat.le_refl _, fun _ _ => rfl⟩⟩
            · have HN := Lib.hid (HN.out rfl)
              go_wp2_with fail
              go_quiet (fail)
              go_wp2_with fail
              exact ⟨⟨k + 1, _, by omega, by go_num, rfl, HN⟩, by simp [intOf]; omega⟩
      · have HT2 : Hid (A = true) := by
          have h1 := HT.out
          have h2 := HLM.out
          rw [List.take_of_length_le (by omega), List.take_of_length_le (by omega)] at h1
          show A = true
          rw [← HA.out]
          exact decide_eq_true h1
        go_wp2
        go_ret
        exact ⟨ret_bool (HT2.out).symm, ⟨rfl, rfl, rfl, Nat.le_refl _, fun _ _ => rfl⟩⟩
  · have hd : decide (l = m) = false := decide_eq_false fun e => hlm (by rw [e])
    rw [hd]
    have i1 : ¬ (l.length : Int) = (m.length : Int) := by omega
    go_enter Tryz.func38, Tryz.ntmps38
    go_wp2
    go_ret
    exact ⟨rfl, Below.refl _ _⟩
set_option maxHeartbeats 1000000 in
theorem equal_cells (a1 a2 : Option Addr) (c1 c2 : Nat) (l m : List Match) (w : World) (h1 : MAt w a1 l) (h2 : MAt w a2 m) (hn : l.length ≤ 1000000) :
    Calls Tryz.prog 65 #[.slice a1 l.length c1, .slice a2 m.length c2] w fun e w' => e = .returned (.bool (decide (l = m))) ∧ Below w.heap.size w w' := by
  have H1 := Lib.hid h1
  have H2 := Lib.hid h2
  clear h1 h2
  by_cases hlm : l.length = m.length
  · obtain ⟨A, HA⟩ : ∃ A, Hid (decide (l = m) = A) := ⟨_, rfl⟩
    rw [HA.out]
    rw [← hlm]
    have HLM := Lib.hid hlm
    clear hlm
    go_enter Tryz.func65, Tryz.ntmps65
    go_wp2
    go_loopw [13] (fun i wr => ∃ k nq : Nat, k ≤ l.length ∧ i = .int .i64 k ∧ wr = w.drewN nq ∧ Hid (l.take k = m.take k)) (fun i _ => l.length - (intOf i).toNat)
    case atStart => exact ⟨0, 0, Nat.zero_le _, rfl, rfl, rfl⟩
    case round =>
      obtain ⟨k, nq, hk, rfl, rfl, HT⟩ := hrel
      by_cases hlt : k < l.length
      · have hlt2 : k < m.length := by have := HLM.out; omega
        obtain ⟨b1, o1, rfl, hb1, hL1⟩ := H1.out (ne_of_lt hlt)
        obtain ⟨b2, o2, rfl, hb2, hL2⟩ := H2.out (ne_of_lt hlt2)
        obtain ⟨d1, e1, e2⟩ := hL1 k hlt
        obtain ⟨d3, e3, e4⟩ := hL2 k hlt2
        have i1 : (k : Int) < (l.length : Int) := by omega
        have i2 : (0 : Int) ≤ (k : Int) := by omega
        have HN : Hid (eqM l[k] m[k] = true → l.take (k + 1) = m.take (k + 1)) := fun h => takeM_on hlt hlt2 HT.out h
        have HF : Hid (eqM l[k] m[k] = false → A = false) := fun h => (HA.out).symm.trans (takeM_off hlt hlt2 h)
        generalize l[k] = x at *
        generalize m[k] = y at *
        have Q0 : Hid ((x.1 == y.1) = decide (x.1 = y.1)) := by show _ = _; by_cases h : x.1 = y.1 <;> simp [h]
        have Q1 := Lib.hid (beq_ba x.2.1 y.2.1)
        have Q2 := Lib.hid (beq_ba x.2.2 y.2.2)
        unfold eqM at HN HF
        generalize decide (x.1 = y.1) = r at *
        generalize eqB x.2.1 y.2.1 = p at *
        generalize eqB x.2.2 y.2.2 = q at *
        clear hL1 hL2 hb1 hb2 H1 H2 HT hlt2
        have q0 := Q0.out
        have q1 := Q1.out
        have q2 := Q2.out
        cases r
        · have HF := Lib.hid (HF.out rfl)
          go_wp2_with fail
          go_quiet (fail)
          go_wp2_with fail
          go_ret
          exact ⟨ret_bool (HF.out).symm, ⟨rfl, rfl, rfl, Nat.le_refl _, fun _ _ => rfl⟩⟩
        · cases p
          · have HF := Lib.hid (HF.out rfl)
            go_wp2_with fail
            go_quiet (fail)
            go_wp2_with fail
            go_ret
            exact ⟨ret_bool (HF.out).symm, ⟨rfl, rfl, rfl, Nat.le_refl _, fun _ _ => rfl⟩⟩
          · cases q
            · have HF := Lib.hid (HF.out rfl)
              go_wp2_with fail
              go_quiet (fail)
              go_wp2_with fail
              go_ret
              exact ⟨ret_bool (HF.out).symm, ⟨rfl, rfl, rfl, Nat.le_refl _, fun _ _ => rfl⟩⟩
            · have HN := Lib.hid (HN.out rfl)
              go_wp2_with fail
              go_quiet (fail)
              go_wp2_with fail
              exact ⟨⟨k + 1, _, by omega, by go_num, rfl, HN⟩, by simp [intOf]; omega⟩
      · have HT2 : Hid (A = true) := by
          have h1 := HT.out
          have h2 := HLM.out
          rw [List.take_of_length_le (by omega), List.take_of_length_le (by omega)] at h1
          show A = true
          rw [← HA.out]
          exact decide_eq_true h1
        go_wp2
        go_ret
        exact ⟨ret_bool (HT2.out).symm, ⟨rfl, rfl, rfl, Nat.le_refl _, fun _ _ => rfl⟩⟩
  · have hd : decide (l = m) = false := decide_eq_false fun e => hlm (by rw [e])
    rw [hd]
    have i1 : ¬ (l.length : Int) = (m.length : Int) := by omega
    go_enter Tryz.func65, Tryz.ntmps65
    go_wp2
    go_ret
    exact ⟨rfl, Below.refl _ _⟩
theorem refSame_any (v1 v2 : Value) (l m : List Match) (w : World) (h1 : MRow w v1 l) (h2 : MRow w v2 m) (hn : l.length ≤ 1000000) :
    Calls Tryz.prog 38 #[v1, v2] w fun e w' => e = .returned (.bool (decide (l = m))) ∧ Below w.heap.size w w' := by
  obtain ⟨a1, c1, rfl, hc1, hl1⟩ := h1
  obtain ⟨a2, c2, rfl, hc2, hl2⟩ := h2
  exact refSame_cells a1 a2 c1 c2 l m w hl1 hl2 hn
set_option maxHeartbeats 400000 in
theorem same_any (v1 v2 : Value) (l m : List Match) (w : World) (h1 : MRow w v1 l) (h2 : MRow w v2 m) (hn : l.length ≤ 1000000) :
    Calls Tryz.prog 36 #[v1, v2] w fun e w' => e = .returned (.bool (decide (l = m))) ∧ Below w.heap.size w w' := by
  obtain ⟨a1, c1, rfl, hc1, hl1⟩ := h1
  obtain ⟨a2, c2, rfl, hc2, hl2⟩ := h2
  have H := Lib.hid (equal_cells a1 a2 c1 c2 l m w hl1 hl2 hn)
  generalize decide (l = m) = d at *
  clear hl1 hl2
  go_enter Tryz.func36, Tryz.ntmps36
  go_wp2_with (go_at_call 65; refine (H.out).mono ?_; rintro e w' ⟨rfl, n1⟩)
  go_ret
  exact ⟨rfl, n1⟩
end Go.Proofs.YtfohknpjlkjbbaaGreatDoor
