/- Walks: slices of tags held against each other (the document's Same, the library's Equal at tags); series as values. -/
import Derived.Test.YtfjbbaejeckonaaDoorT1
import Derived.Test.YtfjbbaejeckonaaDoorM3
namespace Go.Proofs.YtfjbbaejeckonaaDoor
open Go Go.RowKit Tg Ky

def eqT (x y : Tag) : Bool := eqB x.1 y.1 && eqB x.2 y.2
theorem eqT_true (x y : Tag) : eqT x y = true ↔ x = y := by
  unfold eqT
  rw [Bool.and_eq_true, eqB_true, eqB_true]
  constructor
  · rintro ⟨h1, h2⟩
    exact Prod.ext h1 h2
  · rintro rfl
    exact ⟨rfl, rfl⟩
theorem take_on {l m : List Tag} {k : Nat} (h1 : k < l.length) (h2 : k < m.length) (h : l.take k = m.take k) (he : eqT l[k] m[k] = true) : l.take (k + 1) = m.take (k + 1) := by
  rw [List.take_succ_eq_append_getElem h1, List.take_succ_eq_append_getElem h2, h, (eqT_true _ _).1 he]
theorem take_off {l m : List Tag} {k : Nat} (h1 : k < l.length) (h2 : k < m.length) (he : eqT l[k] m[k] = false) : decide (l = m) = false := by
  rw [decide_eq_false_iff_not]
  rintro rfl
  have := (eqT_true l[k] l[k]).2 rfl
  rw [this] at he
  cases he
theorem ret_b {a b : Bool} (h : a = b) : Ending.returned (.bool a) = .returned (.bool b) := by rw [h]

set_option maxHeartbeats 400000 in
theorem sames_cells (a1 a2 : Option Addr) (c1 c2 : Nat) (l m : List Tag) (w : World) (h1 : TAt w a1 l) (h2 : TAt w a2 m) (hn : l.length ≤ 1000000) :
    Calls Tryd.prog 18 #[.slice a1 l.length c1, .slice a2 m.length c2] w fun e w' => e = .returned (.bool (decide (l = m))) ∧ Below w.heap.size w w' := by
  have H1 := Lib.hid h1
  have H2 := Lib.hid h2
  clear h1 h2
  by_cases hlm : l.length = m.length
  · obtain ⟨A, HA⟩ : ∃ A, Hid (decide (l = m) = A) := ⟨_, rfl⟩
    rw [HA.out]
    rw [← hlm]
    have HLM := Lib.hid hlm
    clear hlm
    go_enter Tryd.func18, Tryd.ntmps18
    go_wp2
    go_loopw [5] (fun i wr => ∃ k nq : Nat, k ≤ l.length ∧ i = .int .i64 k ∧ wr = w.drewN nq ∧ Hid (l.take k = m.take k)) (fun i _ => l.length - (intOf i).toNat)
    case atStart => exact ⟨0, 0, Nat.zero_le _, rfl, rfl, rfl⟩
    case round =>
      obtain ⟨k, nq, hk, rfl, rfl, HT⟩ := hrel
      by_cases hlt : k < l.length
      · have hlt2 : k < m.length := by have := HLM.out; omega
        obtain ⟨b1, o1, rfl, hb1, hL1⟩ := H1.out (ne_of_lt hlt)
        obtain ⟨b2, o2, rfl, hb2, hL2⟩ := H2.out (ne_of_lt hlt2)
        obtain ⟨e1, e2⟩ := hL1 k hlt
        obtain ⟨e3, e4⟩ := hL2 k hlt2
        have i1 : (k : Int) < (l.length : Int) := by omega
        have i2 : (0 : Int) ≤ (k : Int) := by omega
        have HN : Hid (eqT l[k] m[k] = true → l.take (k + 1) = m.take (k + 1)) := fun h => take_on hlt hlt2 HT.out h
        have HF : Hid (eqT l[k] m[k] = false → A = false) := fun h => (HA.out).symm.trans (take_off hlt hlt2 h)
        generalize l[k] = x at *
        generalize m[k] = y at *
        have Q1 := Lib.hid (beq_ba x.1 y.1)
        have Q2 := Lib.hid (beq_ba x.2 y.2)
        unfold eqT at HN HF
        generalize eqB x.1 y.1 = p at *
        generalize eqB x.2 y.2 = q at *
        clear hL1 hL2 hb1 hb2 H1 H2 HT hlt2
        cases p
        · have q1 := Q1.out
          have HF := Lib.hid (HF.out rfl)
          go_wp2_with fail
          go_quiet (fail)
          go_wp2_with fail
          go_ret
          exact ⟨ret_b (HF.out).symm, ⟨rfl, rfl, rfl, Nat.le_refl _, fun _ _ => rfl⟩⟩
        · cases q
          · have q1 := Q1.out
            have q2 := Q2.out
            have HF := Lib.hid (HF.out rfl)
            go_wp2_with fail
            go_quiet (fail)
            go_wp2_with fail
            go_ret
            exact ⟨ret_b (HF.out).symm, ⟨rfl, rfl, rfl, Nat.le_refl _, fun _ _ => rfl⟩⟩
          · have q1 := Q1.out
            have q2 := Q2.out
            have HN := Lib.hid (HN.out rfl)
            go_wp2_with fail
            go_quiet (fail)
            go_wp2_with fail
            exact ⟨⟨k + 1, _, by omega, by go_num, rfl, HN⟩, by simp [intOf]; omega⟩
      · have HT2 : Hid (A = true) := by
          have h1 := HT.out
          have h2 := HLM.out
          rw [List.take_of_length_le (by omega), List.take_of_length_le (by omega)] at h1
          show A = true
          rw [← HA.out]
          exact decide_eq_true h1
        go_wp2
        go_ret
        exact ⟨ret_b (HT2.out).symm, ⟨rfl, rfl, rfl, Nat.le_refl _, fun _ _ => rfl⟩⟩
  · have hd : decide (l = m) = false := decide_eq_false fun e => hlm (by rw [e])
    rw [hd]
    have i1 : ¬ (l.length : Int) = (m.length : Int) := by omega
    go_enter Tryd.func18, Tryd.ntmps18
    go_wp2
    go_ret
    exact ⟨rfl, Below.refl _ _⟩
set_option maxHeartbeats 400000 in
theorem equals_cells (a1 a2 : Option Addr) (c1 c2 : Nat) (l m : List Tag) (w : World) (h1 : TAt w a1 l) (h2 : TAt w a2 m) (hn : l.length ≤ 1000000) :
    Calls Tryd.prog 29 #[.slice a1 l.length c1, .slice a2 m.length c2] w fun e w' => e = .returned (.bool (decide (l = m))) ∧ Below w.heap.size w w' := by
  have H1 := Lib.hid h1
  have H2 := Lib.hid h2
  clear h1 h2
  by_cases hlm : l.length = m.length
  · obtain ⟨A, HA⟩ : ∃ A, Hid (decide (l = m) = A) := ⟨_, rfl⟩
    rw [HA.out]
    rw [← hlm]
    have HLM := Lib.hid hlm
    clear hlm
    go_enter Tryd.func29, Tryd.ntmps29
    go_wp2
    go_loopw [13] (fun i wr => ∃ k nq : Nat, k ≤ l.length ∧ i = .int .i64 k ∧ wr = w.drewN nq ∧ Hid (l.take k = m.take k)) (fun i _ => l.length - (intOf i).toNat)
    case atStart => exact ⟨0, 0, Nat.zero_le _, rfl, rfl, rfl⟩
    case round =>
      obtain ⟨k, nq, hk, rfl, rfl, HT⟩ := hrel
      by_cases hlt : k < l.length
      · have hlt2 : k < m.length := by have := HLM.out; omega
        obtain ⟨b1, o1, rfl, hb1, hL1⟩ := H1.out (ne_of_lt hlt)
        obtain ⟨b2, o2, rfl, hb2, hL2⟩ := H2.out (ne_of_lt hlt2)
        obtain ⟨e1, e2⟩ := hL1 k hlt
        obtain ⟨e3, e4⟩ := hL2 k hlt2
        have i1 : (k : Int) < (l.length : Int) := by omega
        have i2 : (0 : Int) ≤ (k : Int) := by omega
        have HN : Hid (eqT l[k] m[k] = true → l.take (k + 1) = m.take (k + 1)) := fun h => take_on hlt hlt2 HT.out h
        have HF : Hid (eqT l[k] m[k] = false → A = false) := fun h => (HA.out).symm.trans (take_off hlt hlt2 h)
        generalize l[k] = x at *
        generalize m[k] = y at *
        have Q1 := Lib.hid (beq_ba x.1 y.1)
        have Q2 := Lib.hid (beq_ba x.2 y.2)
        unfold eqT at HN HF
        generalize eqB x.1 y.1 = p at *
        generalize eqB x.2 y.2 = q at *
        clear hL1 hL2 hb1 hb2 H1 H2 HT hlt2
        cases p
        · have q1 := Q1.out
          have HF := Lib.hid (HF.out rfl)
          go_wp2_with fail
          go_quiet (fail)
          go_wp2_with fail
          go_ret
          exact ⟨ret_b (HF.out).symm, ⟨rfl, rfl, rfl, Nat.le_refl _, fun _ _ => rfl⟩⟩
        · cases q
          · have q1 := Q1.out
            have q2 := Q2.out
            have HF := Lib.hid (HF.out rfl)
            go_wp2_with fail
            go_quiet (fail)
            go_wp2_with fail
            go_ret
            exact ⟨ret_b (HF.out).symm, ⟨rfl, rfl, rfl, Nat.le_refl _, fun _ _ => rfl⟩⟩
          · have q1 := Q1.out
            have q2 := Q2.out
            have HN := Lib.hid (HN.out rfl)
            go_wp2_with fail
            go_quiet (fail)
            go_wp2_with fail
            exact ⟨⟨k + 1, _, by omega, by go_num, rfl, HN⟩, by simp [intOf]; omega⟩
      · have HT2 : Hid (A = true) := by
          have h1 := HT.out
          have h2 := HLM.out
          rw [List.take_of_length_le (by omega), List.take_of_length_le (by omega)] at h1
          show A = true
          rw [← HA.out]
          exact decide_eq_true h1
        go_wp2
        go_ret
        exact ⟨ret_b (HT2.out).symm, ⟨rfl, rfl, rfl, Nat.le_refl _, fun _ _ => rfl⟩⟩
  · have hd : decide (l = m) = false := decide_eq_false fun e => hlm (by rw [e])
    rw [hd]
    have i1 : ¬ (l.length : Int) = (m.length : Int) := by omega
    go_enter Tryd.func29, Tryd.ntmps29
    go_wp2
    go_ret
    exact ⟨rfl, Below.refl _ _⟩

theorem sames_any (v1 v2 : Value) (l m : List Tag) (w : World) (h1 : TRow w v1 l) (h2 : TRow w v2 m) (hn : l.length ≤ 1000000) :
    Calls Tryd.prog 18 #[v1, v2] w fun e w' => e = .returned (.bool (decide (l = m))) ∧ Below w.heap.size w w' := by
  obtain ⟨a1, c1, rfl, hc1, hl1⟩ := h1
  obtain ⟨a2, c2, rfl, hc2, hl2⟩ := h2
  exact sames_cells a1 a2 c1 c2 l m w hl1 hl2 hn
theorem equals_any (v1 v2 : Value) (l m : List Tag) (w : World) (h1 : TRow w v1 l) (h2 : TRow w v2 m) (hn : l.length ≤ 1000000) :
    Calls Tryd.prog 29 #[v1, v2] w fun e w' => e = .returned (.bool (decide (l = m))) ∧ Below w.heap.size w w' := by
  obtain ⟨a1, c1, rfl, hc1, hl1⟩ := h1
  obtain ⟨a2, c2, rfl, hc2, hl2⟩ := h2
  exact equals_cells a1 a2 c1 c2 l m w hl1 hl2 hn

/-- The value v is the series k: its name, and a slice that holds its tags. -/
def KRow (w : World) (v : Value) (k : Key) : Prop := ∃ t, v = .agg #[.string k.1, t] ∧ TRow w t k.2
theorem KRow.on {w w1 : World} {v : Value} {k : Key} (h : KRow w v k) (n : Below w.heap.size w w1) : KRow w1 v k := by
  obtain ⟨t, hv, ht⟩ := h
  exact ⟨t, hv, ht.on n⟩
theorem keepC {W w2 : World} {b off : Nat} {x : Option Value} (hb : Below W.heap.size W w2) (h : W.cell? ⟨b, off, none⟩ = x) (hB : b < W.heap.size) : w2.cell? ⟨b, off, none⟩ = x := by rw [hb.cell (p := ⟨b, off, none⟩) hB]; exact h
theorem belowA {W w2 : World} {o : Obj} (hb : Below (W.alloc o).heap.size (W.alloc o) w2) : Below W.heap.size W w2 := ((Below.refl _ _).alloc (Nat.le_refl _) _).trans (hb.mono (by simp))
theorem belowA2 {W w2 : World} {o1 o2 : Obj} (hb : Below ((W.alloc o1).alloc o2).heap.size ((W.alloc o1).alloc o2) w2) : Below W.heap.size W w2 := belowA (belowA hb)
theorem aBelow (W : World) (o : Obj) : Below W.heap.size W (W.alloc o) := (Below.refl _ _).alloc (Nat.le_refl _) _
theorem aBelow2 (W : World) (o1 o2 : Obj) : Below W.heap.size W ((W.alloc o1).alloc o2) := belowA (aBelow _ _)
theorem newC {W w2 : World} {c : Array Value} {t : TypeId} {i : Nat} (hb : Below (W.alloc (.cells c t)).heap.size (W.alloc (.cells c t)) w2) : w2.cell? ⟨W.heap.size, i, none⟩ = c[i]? :=
  keepC hb (by simp) (by simp)
def eqK (k m : Key) : Bool := eqB k.1 m.1 && decide (k.2 = m.2)
theorem eqK_true (k m : Key) : eqK k m = true ↔ k = m := by
  unfold eqK
  rw [Bool.and_eq_true, eqB_true, decide_eq_true_eq]
  constructor
  · rintro ⟨h1, h2⟩
    exact Prod.ext h1 h2
  · rintro rfl
    exact ⟨rfl, rfl⟩
theorem eqK_self (k : Key) : eqK k k = true := (eqK_true k k).2 rfl

set_option maxHeartbeats 400000 in
theorem ksame_any (v1 v2 : Value) (k m : Key) (w : World) (h1 : KRow w v1 k) (h2 : KRow w v2 m) (hn : k.2.length ≤ 1000000) :
    Calls Tryd.prog 17 #[v1, v2] w fun e w' => e = .returned (.bool (eqK k m)) ∧ Below w.heap.size w w' := by
  obtain ⟨t1, rfl, r1⟩ := h1
  obtain ⟨t2, rfl, r2⟩ := h2
  have H := fun w1 (n1 : Below w.heap.size w w1) => equals_any t1 t2 k.2 m.2 w1 (r1.on n1) (r2.on n1) hn
  have Q1 := Lib.hid (beq_ba k.1 m.1)
  rw [show eqK k m = (eqB k.1 m.1 && decide (k.2 = m.2)) from rfl]
  generalize decide (k.2 = m.2) = d at *
  generalize eqB k.1 m.1 = p at *
  have H := Lib.hid H
  clear r1 r2 hn
  have q1 := Q1.out
  cases p
  · go_enter Tryd.func17, Tryd.ntmps17
    go_wp2_with fail
    go_ret
    exact ⟨rfl, aBelow2 _ _ _⟩
  · go_enter Tryd.func17, Tryd.ntmps17
    go_wp2_with fail
    refine (H.out _ (aBelow2 _ _ _)).mono ?_
    rintro e w2 ⟨rfl, n2⟩
    have d2 := belowA2 n2
    go_wp2_with fail
    go_ret
    exact ⟨by simp, d2⟩
set_option maxHeartbeats 400000 in
theorem refKsame_any (v1 v2 : Value) (k m : Key) (w : World) (h1 : KRow w v1 k) (h2 : KRow w v2 m) (hn : k.2.length ≤ 1000000) :
    Calls Tryd.prog 12 #[v1, v2] w fun e w' => e = .returned (.bool (eqK k m)) ∧ Below w.heap.size w w' := by
  obtain ⟨t1, rfl, r1⟩ := h1
  obtain ⟨t2, rfl, r2⟩ := h2
  have H := fun w1 (n1 : Below w.heap.size w w1) => sames_any t1 t2 k.2 m.2 w1 (r1.on n1) (r2.on n1) hn
  have Q1 := Lib.hid (beq_ba k.1 m.1)
  rw [show eqK k m = (eqB k.1 m.1 && decide (k.2 = m.2)) from rfl]
  generalize decide (k.2 = m.2) = d at *
  generalize eqB k.1 m.1 = p at *
  have H := Lib.hid H
  clear r1 r2 hn
  have q1 := Q1.out
  cases p
  · go_enter Tryd.func12, Tryd.ntmps12
    go_wp2_with fail
    go_ret
    exact ⟨rfl, aBelow2 _ _ _⟩
  · go_enter Tryd.func12, Tryd.ntmps12
    go_wp2_with fail
    refine (H.out _ (aBelow2 _ _ _)).mono ?_
    rintro e w2 ⟨rfl, n2⟩
    have d2 := belowA2 n2
    go_wp2_with fail
    go_ret
    exact ⟨by simp, d2⟩
end Go.Proofs.YtfjbbaejeckonaaDoor
