/- Walks: a query that is read: its box; the shape of its words; its agg. -/
import Derived.Test.YtfohknpjlkjbbaaGreatDoorQ5
import Derived.Test.YtfohknpjlkjbbaaGreatDoorK5
import Derived.Lib.BufferOwn
namespace Go.Proofs.YtfohknpjlkjbbaaGreatDoor
open Go Go.RowKit Tg Pk Ky Qy

/-- The five cells of a query that is read: its agg, its name, its matches, its names behind by, its words; they may be written. -/
def RB (w : World) (b : Nat) (g : Int) (n : ByteArray) (m l s : Value) : Prop :=
  (w.cell? ⟨b, 0, none⟩ = some (.int .i64 g) ∧ w.cell? ⟨b, 1, none⟩ = some (.string n) ∧ w.cell? ⟨b, 2, none⟩ = some m ∧ w.cell? ⟨b, 3, none⟩ = some l ∧ w.cell? ⟨b, 4, none⟩ = some s) ∧
  (w.frozen? ⟨b, 0, none⟩ = false ∧ w.frozen? ⟨b, 1, none⟩ = false ∧ w.frozen? ⟨b, 2, none⟩ = false ∧ w.frozen? ⟨b, 3, none⟩ = false ∧ w.frozen? ⟨b, 4, none⟩ = false) ∧ (∀ i, 5 ≤ i → w.cell? ⟨b, i, none⟩ = none)
theorem RB.lt {w : World} {b : Nat} {g : Int} {n : ByteArray} {m l s : Value} (h : RB w b g n m l s) : b < w.heap.size := World.block_lt_of_cell? _ _ h.1.1
theorem RB.on {w w1 : World} {b : Nat} {g : Int} {n : ByteArray} {m l s : Value} (h : RB w b g n m l s) (d : Below w.heap.size w w1) : RB w1 b g n m l s := by
  have z := h.lt
  obtain ⟨⟨h0, h1, h2, h3, h4⟩, ⟨f0, f1, f2, f3, f4⟩, hi⟩ := h
  exact ⟨⟨keepC d h0 z, keepC d h1 z, keepC d h2 z, keepC d h3 z, keepC d h4 z⟩, ⟨keepF d f0 z, keepF d f1 z, keepF d f2 z, keepF d f3 z, keepF d f4 z⟩, fun i h => keepC d (hi i h) z⟩
theorem RB.set0 {w : World} {b : Nat} {g : Int} {n : ByteArray} {m l s : Value} (h : RB w b g n m l s) (g' : Int) : RB (w.setCell ⟨b, 0, none⟩ (.int .i64 g')) b g' n m l s := by
  obtain ⟨⟨h0, h1, h2, h3, h4⟩, ⟨f0, f1, f2, f3, f4⟩, hi⟩ := h
  refine ⟨⟨?_, ?_, ?_, ?_, ?_⟩, ⟨?_, ?_, ?_, ?_, ?_⟩, fun i h5 => ?_⟩
  rotate_right
  · simp [go_sem, hi i h5]
  all_goals simp [go_sem, h0, h1, h2, h3, h4, f0, f1, f2, f3, f4]
theorem RB.set1 {w : World} {b : Nat} {g : Int} {n : ByteArray} {m l s : Value} (h : RB w b g n m l s) (n' : ByteArray) : RB (w.setCell ⟨b, 1, none⟩ (.string n')) b g n' m l s := by
  obtain ⟨⟨h0, h1, h2, h3, h4⟩, ⟨f0, f1, f2, f3, f4⟩, hi⟩ := h
  refine ⟨⟨?_, ?_, ?_, ?_, ?_⟩, ⟨?_, ?_, ?_, ?_, ?_⟩, fun i h5 => ?_⟩
  rotate_right
  · simp [go_sem, hi i h5]
  all_goals simp [go_sem, h0, h1, h2, h3, h4, f0, f1, f2, f3, f4]
theorem RB.set2 {w : World} {b : Nat} {g : Int} {n : ByteArray} {m l s : Value} (h : RB w b g n m l s) (m' : Value) : RB (w.setCell ⟨b, 2, none⟩ m') b g n m' l s := by
  obtain ⟨⟨h0, h1, h2, h3, h4⟩, ⟨f0, f1, f2, f3, f4⟩, hi⟩ := h
  refine ⟨⟨?_, ?_, ?_, ?_, ?_⟩, ⟨?_, ?_, ?_, ?_, ?_⟩, fun i h5 => ?_⟩
  rotate_right
  · simp [go_sem, hi i h5]
  all_goals simp [go_sem, h0, h1, h2, h3, h4, f0, f1, f2, f3, f4]
theorem RB.set3 {w : World} {b : Nat} {g : Int} {n : ByteArray} {m l s : Value} (h : RB w b g n m l s) (l' : Value) : RB (w.setCell ⟨b, 3, none⟩ l') b g n m l' s := by
  obtain ⟨⟨h0, h1, h2, h3, h4⟩, ⟨f0, f1, f2, f3, f4⟩, hi⟩ := h
  refine ⟨⟨?_, ?_, ?_, ?_, ?_⟩, ⟨?_, ?_, ?_, ?_, ?_⟩, fun i h5 => ?_⟩
  rotate_right
  · simp [go_sem, hi i h5]
  all_goals simp [go_sem, h0, h1, h2, h3, h4, f0, f1, f2, f3, f4]
/-- The words lie elsewhere. -/
def WRow (w : World) (b : Nat) (s : Value) (ws : List ByteArray) : Prop := ∃ bw c, s = .slice (some ⟨bw, 0, none⟩) ws.length c ∧ ws.length ≤ c ∧ bw ≠ b ∧ bw < w.heap.size ∧ Lies w bw 0 ws
theorem Lies.far {w w1 : World} {b bw o : Nat} {l : List ByteArray} (h : Lies w bw o l) (hlt : bw < w.heap.size) (hne : bw ≠ b) (g : w.grownBy w1 (some b)) : Lies w1 bw o l := by
  intro j x hx
  rw [g.cell_far ⟨bw, o + j, none⟩ hlt (fun e => hne (Option.some.inj e))]
  exact h j x hx
theorem WRow.far {w w1 : World} {b : Nat} {s : Value} {ws : List ByteArray} (h : WRow w b s ws) (g : w.grownBy w1 (some b)) : WRow w1 b s ws := by
  obtain ⟨bw, c, hs, hc, hne, hlt, hL⟩ := h
  exact ⟨bw, c, hs, hc, hne, Nat.lt_of_lt_of_le hlt g.size, hL.far hlt hne g⟩

/-- As many words as there must be, with by where it must be? -/
def shapedW (ws : List ByteArray) : Bool := decide (ws.length = 2) || (decide (ws.length = 4) && (match ws[2]? with | some z => eqB z ⟨#[98, 121]⟩ | none => false))

set_option maxHeartbeats 1000000 in
theorem shaped_any (b : Nat) (g : Int) (n : ByteArray) (m l s : Value) (ws : List ByteArray) (w : World) (h : RB w b g n m l s) (hw : WRow w b s ws) :
    Calls Tryz.prog 69 #[.pointer (some ⟨b, 0, none⟩)] w fun e w' => e = .returned (.bool (shapedW ws)) ∧ w' = w := by
  obtain ⟨bw, c, rfl, hc, hne, hlt, hL⟩ := hw
  obtain ⟨c0, c1, c2, c3, c4⟩ := h.1
  clear h
  by_cases h2 : ws.length = 2
  · have hv : shapedW ws = true := by simp [shapedW, h2]
    rw [hv]
    rw [h2] at c4
    clear hv hL
    go_enter Tryz.func69, Tryz.ntmps69
    go_wp2_with fail
    go_ret
    exact ⟨rfl, rfl⟩
  · by_cases h4 : ws.length = 4
    · have e2 := hL.at 2 (by omega)
      have hv : shapedW ws = eqB ws[2] ⟨#[98, 121]⟩ := by
        unfold shapedW
        rw [List.getElem?_eq_getElem (by omega : 2 < ws.length)]
        simp [h4]
      rw [hv]
      rw [h4] at c4
      have HQ := Lib.hid (beq_ba ws[2] ⟨#[98, 121]⟩)
      generalize ws[2] = z at *
      generalize ht : (⟨#[98, 121]⟩ : ByteArray) = by' at *
      clear hv hL h2 h4
      go_enter Tryz.func69, Tryz.ntmps69
      go_wp2_with fail
      go_ret
      exact ⟨ret_bool HQ.out, rfl⟩
    · have hv : shapedW ws = false := by simp [shapedW, h2, h4]
      rw [hv]
      have i1 : ¬ (ws.length : Int) = 2 := by omega
      have i2 : ¬ (ws.length : Int) = 4 := by omega
      clear hv hL
      go_enter Tryz.func69, Tryz.ntmps69
      go_wp2_with fail
      go_ret
      exact ⟨rfl, rfl⟩

set_option maxHeartbeats 1000000 in
theorem readAgg_any (b : Nat) (g : Int) (n : ByteArray) (m l s : Value) (x : ByteArray) (w : World) (h : RB w b g n m l s) :
    Calls Tryz.prog 70 #[.pointer (some ⟨b, 0, none⟩), .string x] w fun e w' => e = .returned (.bool (decide (¬ aggN x.data.toList = 0))) ∧ (¬ aggN x.data.toList = 0 → w' = w.setCell ⟨b, 0, none⟩ (.int .i64 (aggN x.data.toList))) ∧ (aggN x.data.toList = 0 → w' = w) := by
  obtain ⟨⟨c0, c1, c2, c3, c4⟩, ⟨f0, f1, f2, f3, f4⟩, _⟩ := h
  rw [aggN_eq]
  unfold isAgg1 isAgg2 isAgg3 isAgg4
  have H1 := Lib.hid (aggWord_any 1)
  have H2 := Lib.hid (aggWord_any 2)
  have H3 := Lib.hid (aggWord_any 3)
  have H4 := Lib.hid (aggWord_any 4)
  rw [aggB1] at H1
  rw [aggB2] at H2
  rw [aggB3] at H3
  rw [aggB4] at H4
  generalize (⟨#[99, 111, 117, 110, 116]⟩ : ByteArray) = t1 at *
  generalize (⟨#[115, 117, 109]⟩ : ByteArray) = t2 at *
  generalize (⟨#[109, 105, 110]⟩ : ByteArray) = t3 at *
  generalize (⟨#[109, 97, 120]⟩ : ByteArray) = t4 at *
  have q1 := beq_ba t1 x
  have q2 := beq_ba t2 x
  have q3 := beq_ba t3 x
  have q4 := beq_ba t4 x
  generalize eqB t1 x = p1 at *
  generalize eqB t2 x = p2 at *
  generalize eqB t3 x = p3 at *
  generalize eqB t4 x = p4 at *
  cases p1
  · cases p2
    · cases p3
      · cases p4
        · go_enter Tryz.func70, Tryz.ntmps70
          go_wp2_with fail
          refine wp_loop_rounds 5 ?_
          rw [rounds_succ]
          go_wp2_with fail
          refine (H1.out _).mono ?_
          rintro e w1 ⟨rfl, hw⟩
          have hw := hw.symm
          subst hw
          go_wp2_with fail
          rw [rounds_succ]
          go_wp2_with fail
          refine (H2.out _).mono ?_
          rintro e w1 ⟨rfl, hw⟩
          have hw := hw.symm
          subst hw
          go_wp2_with fail
          rw [rounds_succ]
          go_wp2_with fail
          refine (H3.out _).mono ?_
          rintro e w1 ⟨rfl, hw⟩
          have hw := hw.symm
          subst hw
          go_wp2_with fail
          rw [rounds_succ]
          go_wp2_with fail
          refine (H4.out _).mono ?_
          rintro e w1 ⟨rfl, hw⟩
          have hw := hw.symm
          subst hw
          go_wp2_with fail
          rw [rounds_succ]
          go_wp2_with fail
          go_ret
          exact ⟨rfl, rfl⟩
        · go_enter Tryz.func70, Tryz.ntmps70
          go_wp2_with fail
          refine wp_loop_rounds 4 ?_
          rw [rounds_succ]
          go_wp2_with fail
          refine (H1.out _).mono ?_
          rintro e w1 ⟨rfl, hw⟩
          have hw := hw.symm
          subst hw
          go_wp2_with fail
          rw [rounds_succ]
          go_wp2_with fail
          refine (H2.out _).mono ?_
          rintro e w1 ⟨rfl, hw⟩
          have hw := hw.symm
          subst hw
          go_wp2_with fail
          rw [rounds_succ]
          go_wp2_with fail
          refine (H3.out _).mono ?_
          rintro e w1 ⟨rfl, hw⟩
          have hw := hw.symm
          subst hw
          go_wp2_with fail
          rw [rounds_succ]
          go_wp2_with fail
          refine (H4.out _).mono ?_
          rintro e w1 ⟨rfl, hw⟩
          have hw := hw.symm
          subst hw
          go_wp2_with fail
          go_ret
          exact ⟨rfl, rfl⟩
      · go_enter Tryz.func70, Tryz.ntmps70
        go_wp2_with fail
        refine wp_loop_rounds 3 ?_
        rw [rounds_succ]
        go_wp2_with fail
        refine (H1.out _).mono ?_
        rintro e w1 ⟨rfl, hw⟩
        have hw := hw.symm
        subst hw
        go_wp2_with fail
        rw [rounds_succ]
        go_wp2_with fail
        refine (H2.out _).mono ?_
        rintro e w1 ⟨rfl, hw⟩
        have hw := hw.symm
        subst hw
        go_wp2_with fail
        rw [rounds_succ]
        go_wp2_with fail
        refine (H3.out _).mono ?_
        rintro e w1 ⟨rfl, hw⟩
        have hw := hw.symm
        subst hw
        go_wp2_with fail
        go_ret
        exact ⟨rfl, rfl⟩
    · go_enter Tryz.func70, Tryz.ntmps70
      go_wp2_with fail
      refine wp_loop_rounds 2 ?_
      rw [rounds_succ]
      go_wp2_with fail
      refine (H1.out _).mono ?_
      rintro e w1 ⟨rfl, hw⟩
      have hw := hw.symm
      subst hw
      go_wp2_with fail
      rw [rounds_succ]
      go_wp2_with fail
      refine (H2.out _).mono ?_
      rintro e w1 ⟨rfl, hw⟩
      have hw := hw.symm
      subst hw
      go_wp2_with fail
      go_ret
      exact ⟨rfl, rfl⟩
  · go_enter Tryz.func70, Tryz.ntmps70
    go_wp2_with fail
    refine wp_loop_rounds 1 ?_
    rw [rounds_succ]
    go_wp2_with fail
    refine (H1.out _).mono ?_
    rintro e w1 ⟨rfl, hw⟩
    have hw := hw.symm
    subst hw
    go_wp2_with fail
    go_ret
    exact ⟨rfl, rfl⟩
end Go.Proofs.YtfohknpjlkjbbaaGreatDoor
