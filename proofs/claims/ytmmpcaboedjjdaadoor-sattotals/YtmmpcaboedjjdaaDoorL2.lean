/- Walks: the law SatTotals. -/
import Derived.Test.YtmmpcaboedjjdaaDoorL1
import Derived.Test.YtmmpcaboedjjdaaDoorW6
import Derived.Deep.RegionHeld3
import Derived.BigQuiet
namespace Go.Proofs.YtmmpcaboedjjdaaDoor
open Go Go.RowKit

/-- The sums' cells, one behind the other. -/
def flat (l : List (Int × Bool)) : List Value := l.flatMap fun x => [.int .i64 x.1, .bool x.2]
theorem flat_len (l : List (Int × Bool)) : (flat l).length = l.length * 2 := by
  induction l with
  | nil => rfl
  | cons x r ih => simp only [flat, List.flatMap_cons, List.length_append] at ih ⊢; rw [ih]; simp; omega
theorem flat_at (l : List (Int × Bool)) : ∀ (i : Nat) (h : i < l.length), (flat l)[i * 2]? = some (.int .i64 (l[i]).1) ∧ (flat l)[i * 2 + 1]? = some (.bool (l[i]).2) := by
  induction l with
  | nil => intro i h; cases h
  | cons x r ih =>
    intro i h
    cases i with
    | zero => exact ⟨rfl, rfl⟩
    | succ i =>
      have h' : i < r.length := by simpa using h
      obtain ⟨h1, h2⟩ := ih i h'
      have e : flat (x :: r) = .int .i64 x.1 :: .bool x.2 :: flat r := rfl
      rw [e]
      constructor
      · rw [show (i + 1) * 2 = i * 2 + 1 + 1 from by omega]
        simp only [List.getElem?_cons_succ, List.getElem_cons_succ]
        exact h1
      · rw [show (i + 1) * 2 + 1 = i * 2 + 1 + 1 + 1 from by omega]
        simp only [List.getElem?_cons_succ, List.getElem_cons_succ]
        exact h2
theorem flat_one (l : List (Int × Bool)) : ∀ u ∈ flat l, u.oneCell' = true := by
  intro u hu
  simp only [flat, List.mem_flatMap] at hu
  obtain ⟨x, _, hx⟩ := hu
  simp at hx
  rcases hx with rfl | rfl <;> rfl
theorem flat_cells {w : World} {b o : Nat} {l : List (Int × Bool)} (hL : Lies w b o l) : ∀ j u, (flat l)[j]? = some u → w.cell? ((⟨b, o, none⟩ : Addr).add j) = some u := by
  intro j u hu
  have hj : j < l.length * 2 := by rw [← flat_len]; exact (List.getElem?_eq_some_iff.1 hu).1
  have hi : j / 2 < l.length := by omega
  obtain ⟨f1, f2⟩ := flat_at l (j / 2) hi
  obtain ⟨c1, c2⟩ := hL (j / 2) hi
  have hadd : (⟨b, o, none⟩ : Addr).add j = ⟨b, o + j, none⟩ := by simp [Addr.add]
  rw [hadd]
  rcases Nat.mod_two_eq_zero_or_one j with h | h
  · rw [show j / 2 * 2 = j from by omega] at f1 c1
    rw [c1, ← f1, hu]
  · rw [show j / 2 * 2 + 1 = j from by omega] at f2
    rw [show o + j / 2 * 2 + 1 = o + j from by omega] at c2
    rw [c2, ← f2, hu]
theorem lies_own {w : World} {base g cap : Nat} {l : List (Int × Bool)} (h : w.ownsRow base 23 2 (.slice (some ⟨g, 0, none⟩) l.length cap) l.length (flat l)) : Lies w g 0 l := by
  intro i hi
  rcases h.2 with ⟨h0, _⟩ | ⟨g', cap', cur, hv, _, hg, _, _, hc, ht⟩
  · cases h0
  · cases hv
    obtain ⟨f1, f2⟩ := flat_at l i hi
    have hcell : ∀ j, w.cell? ⟨g, j, none⟩ = cur[j]? := fun j => cell_of_row w g j cur 23 (0, 0) hg
    rw [← ht, List.getElem?_take] at f1 f2
    rw [hcell, hcell]
    rw [if_pos (by omega)] at f1 f2
    simp only [Array.getElem?_toList] at f1 f2
    rw [Nat.zero_add]
    exact ⟨f1, f2⟩
theorem own_empty (w : World) : (w.alloc (.cells #[] 23)).ownsRow w.heap.size 23 2 (.slice (some ⟨w.heap.size, 0, none⟩) 0 0) 0 [] :=
  ⟨by simp, .inr ⟨w.heap.size, 0, #[], rfl, Nat.le_refl _, heap_alloc_new w _, Nat.le_refl _, by decide, by simp, by simp⟩⟩
theorem own_form {w : World} {base n : Nat} {v : Value} {xs : List Value} (h : w.ownsRow base 23 2 v n xs) (hv : v ≠ .slice none 0 0) : ∃ g cap, v = .slice (some ⟨g, 0, none⟩) n cap ∧ base ≤ g ∧ g < w.heap.size := by
  rcases h.2 with ⟨h0, _⟩ | ⟨g, cap, cur, hv', hb, hg, _⟩
  · exact absurd h0 hv
  · refine ⟨g, cap, hv', hb, ?_⟩
    rcases Nat.lt_or_ge g w.heap.size with hlt | hge
    · exact hlt
    · rw [Array.getElem?_eq_none hge] at hg; cases hg
theorem held1_on {ab sb : Nat} {a : Int} {ao : Bool} {w W w3 : World}
    (h : W.cell? ⟨sb, 0, none⟩ = some (.int .i64 a) ∧ W.cell? ⟨sb, 1, none⟩ = some (.bool ao) ∧ Below ab w W) (hab : ab ≤ W.heap.size) (n : Below W.heap.size W w3) :
    w3.cell? ⟨sb, 0, none⟩ = some (.int .i64 a) ∧ w3.cell? ⟨sb, 1, none⟩ = some (.bool ao) ∧ Below ab w w3 := by
  obtain ⟨h0, h1, h2⟩ := h
  have z0 := World.block_lt_of_cell? _ _ h0
  exact ⟨keepC n h0 z0, keepC n h1 z0, h2.trans (n.mono hab)⟩
theorem info23 : ∃ i, Tryd.prog.info? 23 = some i ∧ i.zero = some (.agg #[.int .i64 0, .bool false]) ∧ i.size = 2 ∧ i.bytes = 16 := ⟨_, rfl, rfl, rfl, rfl⟩

set_option maxHeartbeats 1000000 in
theorem totals_walk (B : Nat) (b o c : Nat) (l : List (Int × Bool)) (w : World) (hE : Env B w) (hL : Lies w b o l) (hb : b < w.heap.size) (ho : ∀ x ∈ l, okS x) :
    Calls Tryd.prog 4 #[.slice (some ⟨b, o, none⟩) l.length c] w fun e w' => e = .returned (.bool true) ∧ Below w.heap.size w w' := by
  go_enter Tryd.func4, Tryd.ntmps4
  go_wp2_with fail
  refine (alive_any B _ hE).mono ?_
  rintro e w1 ⟨rfl, d1⟩
  by_cases hl : 1000 < l.length
  · go_wp2_with fail
    go_ret
    exact ⟨rfl, d1⟩
  · have hl2 : (l.length : Int) ≤ 1000 := by omega
    have hL1 := liesOn hL hb d1
    have hb1 : b < w1.heap.size := Nat.lt_of_lt_of_le hb d1.size
    obtain ⟨i0, hi, hz0, hz1, hz2⟩ := info23
    have HI := Lib.hid (And.intro hi (And.intro hz0 (And.intro hz1 hz2)))
    clear hi hz0 hz1 hz2
    have HL1 := Lib.hid (liesAlloc hL1 hb1 (Obj.cells #[] 23))
    go_wp2_with (first | (at_builtin; refine wpList_append_own _ rfl _ _ 29 rfl w1.heap.size 23 i0 (.agg #[.int .i64 0, .bool false]) 2 16 Tryd.underlying29 HI.out.1 HI.out.2.1 HI.out.2.2.1 HI.out.2.2.2 rfl (by decide) _ _ _ rfl (own_empty w1) ⟨b, o, none⟩ l.length c (flat l) rfl (flat_len l) (flat_cells HL1.out) (flat_one l) (by unfold maxLen; omega) (by omega) (by simp) ?_; intro v' w2 hown hgrow hnil))
    have hne : v' ≠ .slice none 0 0 := fun h => by
      have := (hnil.1 h).1
      cases this
    simp only [Nat.zero_add, List.nil_append] at hown
    have d2 : Below w1.heap.size w1 w2 := ((Below.refl _ _).alloc (Nat.le_refl _) _).grown hgrow (by simp) (fun k hk => by cases hk; exact Nat.le_refl _)
    clear hnil hgrow HI HL1
    have hex := own_form hown hne
    obtain ⟨g, cap, hv, hg1, hg2⟩ := hex
    rw [hv] at hown ⊢
    have hL2 := lies_own hown
    clear hown hne hv
    have hLb := liesOn hL1 hb1 d2
    have d3 := d1.trans (d2.mono d1.size)
    have hb2 : b < w2.heap.size := Nat.lt_of_lt_of_le hb1 d2.size
    clear d1 d2 hL1 hL
    go_wp2_with fail
    refine (total_any g 0 cap l _ hL2 hg2 ho (by omega)).mono ?_
    rintro e w3 ⟨rfl, n3⟩
    have hLg3 := liesOn hL2 hg2 n3
    have hLb3 := liesOn hLb hb2 n3
    have d4 := d3.trans (n3.mono d3.size)
    have hg3 : g < w3.heap.size := Nat.lt_of_lt_of_le hg2 n3.size
    have hb3 : b < w3.heap.size := Nat.lt_of_lt_of_le hb2 n3.size
    clear hL2 hLb d3 n3 hg2 hb2 hg1
    go_wp2_with fail
    have x0 : (w3.alloc (Obj.cells #[Value.int IntKind.i64 (tot l).1, Value.bool (tot l).2] 23)).cell? ⟨w3.heap.size, 0, none⟩ = some (.int .i64 (tot l).1) := by simp
    have x1 : (w3.alloc (Obj.cells #[Value.int IntKind.i64 (tot l).1, Value.bool (tot l).2] 23)).cell? ⟨w3.heap.size, 1, none⟩ = some (.bool (tot l).2) := by simp
    have hLg := liesAlloc hLg3 hg3 (Obj.cells #[Value.int IntKind.i64 (tot l).1, Value.bool (tot l).2] 23)
    have hLb := liesAlloc hLb3 hb3 (Obj.cells #[Value.int IntKind.i64 (tot l).1, Value.bool (tot l).2] 23)
    have d5 := d4.alloc d4.size (Obj.cells #[Value.int IntKind.i64 (tot l).1, Value.bool (tot l).2] 23)
    have hb5 : b < (w3.alloc (Obj.cells #[Value.int IntKind.i64 (tot l).1, Value.bool (tot l).2] 23)).heap.size := by simp; omega
    clear hLg3 hLb3 d4 hg3 hb3
    generalize w3.alloc (Obj.cells #[Value.int IntKind.i64 (tot l).1, Value.bool (tot l).2] 23) = W at *
    generalize w3.heap.size = sb at *
    go_loopw [5] (fun i wr => ∃ k nq : Nat, k ≤ l.length ∧ i = .int .i64 k ∧ wr = W.drewN nq) (fun i _ => l.length - (intOf i).toNat)
    case atStart => exact ⟨0, 0, Nat.zero_le _, rfl, rfl⟩
    case round =>
      obtain ⟨k, nq, hk, rfl, rfl⟩ := hrel
      by_cases hlt : k < l.length
      · obtain ⟨c1, c2⟩ := hLb k hlt
        obtain ⟨g1, g2⟩ := hLg k hlt
        rw [Nat.zero_add] at g1 g2
        have i1 : (k : Int) < (l.length : Int) := by omega
        have i2 : (0 : Int) ≤ (k : Int) := by omega
        go_wp2_with fail
        go_quiet (fail)
        go_wp2_with fail
        exact ⟨⟨k + 1, _, by omega, by go_num, rfl⟩, by simp [intOf]; omega⟩
      · have hS : (W.drewN nq).drew.cell? ⟨sb, 0, none⟩ = some (.int .i64 (tot l).1) ∧ (W.drewN nq).drew.cell? ⟨sb, 1, none⟩ = some (.bool (tot l).2) ∧ Below w.heap.size w (W.drewN nq).drew := ⟨x0, x1, (d5.trans ⟨rfl, rfl, rfl, Nat.le_refl _, fun _ _ => rfl⟩)⟩
        have hLd : Lies (W.drewN nq).drew b o l := hLb
        have hbd : b < (W.drewN nq).drew.heap.size := hb5
        clear hLg hLb d5 hb5 x0 x1 hE
        go_wp2_with fail
        go_region_held3 (fun w' => w'.cell? ⟨sb, 0, none⟩ = some (.int .i64 (tot l).1) ∧ w'.cell? ⟨sb, 1, none⟩ = some (.bool (tot l).2) ∧ Below w.heap.size w w') (assumption)
          (first
            | (go_at_call 13; refine (refTotal_any b o c l _ hLd hbd ho (by omega)).mono ?_; rintro e w6 ⟨rfl, n6⟩; have hS6 := held1_on hS hS.2.2.size n6; clear n6))
        all_goals
          have d6 := hS6.2.2
          clear hS hS6 hLd hbd
          go_wp2
          go_ret
          exact ⟨rfl, d6⟩

set_option maxHeartbeats 400000 in
theorem refTotal_zero (av : Option Addr) (c : Nat) (w : World) :
    Calls Tryd.prog 13 #[.slice av 0 c] w fun e w' => e = .returned (.agg #[.int .i64 0, .bool false]) ∧ Below w.heap.size w w' := by
  go_enter Tryd.func13, Tryd.ntmps13
  go_wp2
  refine wp_loop_rounds 1 ?_
  rw [rounds_succ]
  go_wp2_with fail
  exact bodyPost_ret (v := .agg #[.int .i64 0, .bool false]) (by simp [results, Tryd.results13, go_sem]) rfl ⟨rfl, ((Below.refl _ _).alloc (Nat.le_refl _) _).alloc (by simp) _⟩

set_option maxHeartbeats 1000000 in
theorem totals_nil (B : Nat) (w : World) (hE : Env B w) :
    Calls Tryd.prog 4 #[.slice none 0 0] w fun e w' => e = .returned (.bool true) ∧ Below w.heap.size w w' := by
  go_enter Tryd.func4, Tryd.ntmps4
  go_wp2_with fail
  refine (alive_any B _ hE).mono ?_
  rintro e w1 ⟨rfl, d1⟩
  go_wp2_with fail
  refine (total_any w1.heap.size 0 0 [] _ (fun i hi => by cases hi) (by simp) (fun x hx => by cases hx) (by simp)).mono ?_
  rw [show tot [] = (0, false) from rfl]
  rintro e w2 ⟨rfl, n2⟩
  have d2 := d1.trans ((belowAlloc n2).mono d1.size)
  clear n2 d1 hE
  go_wp2_with fail
  refine wp_loop_rounds 1 ?_
  rw [rounds_succ]
  go_wp2_with fail
  have x0 : (w2.alloc (Obj.cells #[Value.int IntKind.i64 0, Value.bool false] 23)).cell? ⟨w2.heap.size, 0, none⟩ = some (.int .i64 0) := by simp
  have x1 : (w2.alloc (Obj.cells #[Value.int IntKind.i64 0, Value.bool false] 23)).cell? ⟨w2.heap.size, 1, none⟩ = some (.bool false) := by simp
  have d3 := d2.alloc d2.size (Obj.cells #[Value.int IntKind.i64 0, Value.bool false] 23)
  clear d2
  generalize w2.alloc (Obj.cells #[Value.int IntKind.i64 0, Value.bool false] 23) = W at *
  generalize w2.heap.size = sb at *
  have hS : W.drew.cell? ⟨sb, 0, none⟩ = some (.int .i64 0) ∧ W.drew.cell? ⟨sb, 1, none⟩ = some (.bool false) ∧ Below w.heap.size w W.drew := ⟨x0, x1, d3.drew⟩
  clear x0 x1 d3
  go_region_held3 (fun w' => w'.cell? ⟨sb, 0, none⟩ = some (.int .i64 0) ∧ w'.cell? ⟨sb, 1, none⟩ = some (.bool false) ∧ Below w.heap.size w w') (assumption)
    (first
      | (go_at_call 13; refine (refTotal_zero none 0 _).mono ?_; rintro e w6 ⟨rfl, n6⟩; have hS6 := held1_on hS hS.2.2.size n6; clear n6))
  all_goals
    have d6 := hS6.2.2
    clear hS hS6
    go_wp2
    go_ret
    exact ⟨rfl, d6⟩

set_option maxHeartbeats 1000000 in
theorem totals_zero (B : Nat) (a : Addr) (c : Nat) (w : World) (hE : Env B w) :
    Calls Tryd.prog 4 #[.slice (some a) 0 c] w fun e w' => e = .returned (.bool true) ∧ Below w.heap.size w w' := by
  go_enter Tryd.func4, Tryd.ntmps4
  go_wp2_with fail
  refine (alive_any B _ hE).mono ?_
  rintro e w1 ⟨rfl, d1⟩
  obtain ⟨i0, hi, hz0, hz1, hz2⟩ := info23
  have HI := Lib.hid (And.intro hi (And.intro hz0 (And.intro hz1 hz2)))
  clear hi hz0 hz1 hz2
  go_wp2_with (first | (at_builtin; refine wpList_append_own _ rfl _ _ 29 rfl w1.heap.size 23 i0 (.agg #[.int .i64 0, .bool false]) 2 16 Tryd.underlying29 HI.out.1 HI.out.2.1 HI.out.2.2.1 HI.out.2.2.2 rfl (by decide) _ _ _ rfl (own_empty w1) a 0 c [] rfl rfl (fun j u h => by simp at h) (fun u h => by cases h) (by decide) (by decide) (by simp) ?_; intro v' w1b hown hgrow hnil))
  have hne : v' ≠ .slice none 0 0 := fun h => by
    have := (hnil.1 h).1
    cases this
  have d1b : Below w1.heap.size w1 w1b := ((Below.refl _ _).alloc (Nat.le_refl _) _).grown hgrow (by simp) (fun k hk => by cases hk; exact Nat.le_refl _)
  clear hnil hgrow HI
  obtain ⟨g, cap, hv, hg1, hg2⟩ := own_form hown hne
  rw [hv]
  clear hown hne hv hg1
  go_wp2_with fail
  refine (total_any g 0 cap [] _ (fun i hi => by cases hi) hg2 (fun x hx => by cases hx) (by simp)).mono ?_
  rw [show tot [] = (0, false) from rfl]
  rintro e w2 ⟨rfl, n2⟩
  have d2 := (d1.trans (d1b.mono d1.size)).trans (n2.mono (d1.trans (d1b.mono d1.size)).size)
  clear n2 d1 d1b hE hg2
  go_wp2_with fail
  refine wp_loop_rounds 1 ?_
  rw [rounds_succ]
  go_wp2_with fail
  have x0 : (w2.alloc (Obj.cells #[Value.int IntKind.i64 0, Value.bool false] 23)).cell? ⟨w2.heap.size, 0, none⟩ = some (.int .i64 0) := by simp
  have x1 : (w2.alloc (Obj.cells #[Value.int IntKind.i64 0, Value.bool false] 23)).cell? ⟨w2.heap.size, 1, none⟩ = some (.bool false) := by simp
  have d3 := d2.alloc d2.size (Obj.cells #[Value.int IntKind.i64 0, Value.bool false] 23)
  clear d2
  generalize w2.alloc (Obj.cells #[Value.int IntKind.i64 0, Value.bool false] 23) = W at *
  generalize w2.heap.size = sb at *
  have hS : W.drew.cell? ⟨sb, 0, none⟩ = some (.int .i64 0) ∧ W.drew.cell? ⟨sb, 1, none⟩ = some (.bool false) ∧ Below w.heap.size w W.drew := ⟨x0, x1, d3.drew⟩
  clear x0 x1 d3
  go_region_held3 (fun w' => w'.cell? ⟨sb, 0, none⟩ = some (.int .i64 0) ∧ w'.cell? ⟨sb, 1, none⟩ = some (.bool false) ∧ Below w.heap.size w w') (assumption)
    (first
      | (go_at_call 13; refine (refTotal_zero (some a) c _).mono ?_; rintro e w6 ⟨rfl, n6⟩; have hS6 := held1_on hS hS.2.2.size n6; clear n6))
  all_goals
    have d6 := hS6.2.2
    clear hS hS6
    go_wp2
    go_ret
    exact ⟨rfl, d6⟩
end Go.Proofs.YtmmpcaboedjjdaaDoor
