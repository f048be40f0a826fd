/- Walks: the law CellMerges. -/
import Derived.Test.YtnpnikgbjdeboaaL2
namespace Go.Proofs.Ytnpnikgbjdeboaa
open Go Go.RowKit Cl

/-- The cells' cells, one behind the other. -/
def flatC (l : List Cell) : List Value := l.flatMap fun x => [.int .i64 x.cnt, .int .i64 x.sn, .bool x.so, .int .i64 x.mn, .int .i64 x.mx]
theorem flatC_len (l : List Cell) : (flatC l).length = l.length * 5 := by
  induction l with
  | nil => rfl
  | cons x r ih => simp only [flatC, List.flatMap_cons, List.length_append] at ih ⊢; rw [ih]; simp; omega
theorem flatC_cons (x : Cell) (r : List Cell) : flatC (x :: r) = .int .i64 x.cnt :: .int .i64 x.sn :: .bool x.so :: .int .i64 x.mn :: .int .i64 x.mx :: flatC r := rfl
theorem flatC_at (l : List Cell) : ∀ (i : Nat) (h : i < l.length), (flatC l)[i * 5]? = some (.int .i64 (l[i]).cnt) ∧ (flatC l)[i * 5 + 1]? = some (.int .i64 (l[i]).sn) ∧ (flatC l)[i * 5 + 2]? = some (.bool (l[i]).so) ∧ (flatC l)[i * 5 + 3]? = some (.int .i64 (l[i]).mn) ∧ (flatC l)[i * 5 + 4]? = some (.int .i64 (l[i]).mx) := by
  induction l with
  | nil => intro i h; cases h
  | cons x r ih =>
    intro i h
    cases i with
    | zero => exact ⟨rfl, rfl, rfl, rfl, rfl⟩
    | succ i =>
      have h' : i < r.length := by simpa using h
      obtain ⟨h0, h1, h2, h3, h4⟩ := ih i h'
      rw [flatC_cons]
      have e : ∀ j, (Value.int .i64 x.cnt :: .int .i64 x.sn :: .bool x.so :: .int .i64 x.mn :: .int .i64 x.mx :: flatC r)[(i + 1) * 5 + j]? = (flatC r)[i * 5 + j]? := by
        intro j
        rw [show (i + 1) * 5 + j = i * 5 + j + 1 + 1 + 1 + 1 + 1 from by omega]
        simp only [List.getElem?_cons_succ]
      have e0 := e 0
      rw [Nat.add_zero, Nat.add_zero] at e0
      rw [e0, e 1, e 2, e 3, e 4]
      simp only [List.getElem_cons_succ]
      exact ⟨h0, h1, h2, h3, h4⟩
theorem flatC_one (l : List Cell) : ∀ u ∈ flatC l, u.oneCell' = true := by
  intro u hu
  simp only [flatC, List.mem_flatMap] at hu
  obtain ⟨x, _, hx⟩ := hu
  simp at hx
  rcases hx with rfl | rfl | rfl | rfl | rfl <;> rfl
theorem flatC_cells {w : World} {ad : Addr} {l : List Cell} (hA : CAt w (some ad) l) : ∀ j u, (flatC l)[j]? = some u → w.cell? (ad.add j) = some u := by
  intro j u hu
  have hj : j < l.length * 5 := by rw [← flatC_len]; exact (List.getElem?_eq_some_iff.1 hu).1
  have hi : j / 5 < l.length := by omega
  obtain ⟨b, o, ha, _, hL⟩ := hA (ne_of_lt hi)
  cases ha
  obtain ⟨f0, f1, f2, f3, f4⟩ := flatC_at l (j / 5) hi
  obtain ⟨c0, c1, c2, c3, c4⟩ := hL (j / 5) hi
  have hadd : (⟨b, o, none⟩ : Addr).add j = ⟨b, o + j, none⟩ := by simp [Addr.add]
  rw [hadd]
  have hm : j % 5 = 0 ∨ j % 5 = 1 ∨ j % 5 = 2 ∨ j % 5 = 3 ∨ j % 5 = 4 := by omega
  rcases hm with h | h | h | h | h
  · rw [show j / 5 * 5 = j from by omega] at f0 c0
    rw [c0, ← f0, hu]
  · rw [show j / 5 * 5 + 1 = j from by omega] at f1
    rw [show o + j / 5 * 5 + 1 = o + j from by omega] at c1
    rw [c1, ← f1, hu]
  · rw [show j / 5 * 5 + 2 = j from by omega] at f2
    rw [show o + j / 5 * 5 + 2 = o + j from by omega] at c2
    rw [c2, ← f2, hu]
  · rw [show j / 5 * 5 + 3 = j from by omega] at f3
    rw [show o + j / 5 * 5 + 3 = o + j from by omega] at c3
    rw [c3, ← f3, hu]
  · rw [show j / 5 * 5 + 4 = j from by omega] at f4
    rw [show o + j / 5 * 5 + 4 = o + j from by omega] at c4
    rw [c4, ← f4, hu]
theorem cat_own {w : World} {base g cap : Nat} {l : List Cell} (h : w.ownsRow base 25 5 (.slice (some ⟨g, 0, none⟩) l.length cap) l.length (flatC l)) : CAt w (some ⟨g, 0, none⟩) l := by
  intro hne
  rcases h.2 with ⟨h0, _⟩ | ⟨g', cap', cur, hv, _, hg, _, _, hc, ht⟩
  · cases h0
  · cases hv
    refine ⟨g, 0, rfl, ?_, ?_⟩
    · rcases Nat.lt_or_ge g w.heap.size with hlt | hge
      · exact hlt
      · rw [Array.getElem?_eq_none hge] at hg; cases hg
    · intro i hi
      have hcell : ∀ j, w.cell? ⟨g, j, none⟩ = cur[j]? := fun j => cell_of_row w g j cur 25 (0, 0) hg
      obtain ⟨f0, f1, f2, f3, f4⟩ := flatC_at l i hi
      rw [← ht, List.getElem?_take] at f0 f1 f2 f3 f4
      rw [hcell, hcell, hcell, hcell, hcell, Nat.zero_add]
      rw [if_pos (by omega)] at f0 f1 f2 f3 f4
      simp only [Array.getElem?_toList] at f0 f1 f2 f3 f4
      exact ⟨f0, f1, f2, f3, f4⟩
theorem ownC_empty (w : World) : (w.alloc (.cells #[] 25)).ownsRow w.heap.size 25 5 (.slice (some ⟨w.heap.size, 0, none⟩) 0 0) 0 [] :=
  ⟨by simp, .inr ⟨w.heap.size, 0, #[], rfl, Nat.le_refl _, heap_alloc_new w _, Nat.le_refl _, by decide, by simp, by simp⟩⟩
theorem info25 : ∃ i, Try.prog.info? 25 = some i ∧ i.zero = some (.agg #[.int .i64 0, .int .i64 0, .bool false, .int .i64 0, .int .i64 0]) ∧ i.size = 5 ∧ i.bytes = 40 := ⟨_, rfl, rfl, rfl, rfl⟩
theorem f_merge0 : mergeL [] = zero := rfl

set_option maxHeartbeats 1000000 in
theorem merge_walk_some (ad : Addr) (c : Nat) (l : List Cell) (w : World) (hA : CAt w (some ad) l) (ho : ∀ x ∈ l, okC x) :
    Calls Try.prog 5 #[.slice (some ad) l.length c] w fun e w' => e = .returned (.bool true) ∧ Below w.heap.size w w' := by
  have HO := Lib.hid ho
  clear ho
  have HA := Lib.hid hA
  clear hA
  go_enter Try.func5, Try.ntmps5
  go_wp2_with fail
  refine (alive_any _).mono ?_
  rintro e w1 ⟨rfl, d1⟩
  by_cases hl : 1000 < l.length
  · go_wp2_with fail
    go_ret
    exact ⟨rfl, d1⟩
  · have hl2 : (l.length : Int) ≤ 1000 := by omega
    have HA1 := Lib.hid (HA.out.on d1)
    obtain ⟨i0, hi, hz0, hz1, hz2⟩ := info25
    have HI := Lib.hid (And.intro hi (And.intro hz0 (And.intro hz1 hz2)))
    clear hi hz0 hz1 hz2 HA
    have HAa := Lib.hid (HA1.out.on (aBelow w1 (.cells #[] 25)))
    go_wp2_with (first | (at_builtin; refine wpList_append_own _ rfl _ _ 35 rfl w1.heap.size 25 i0 (.agg #[.int .i64 0, .int .i64 0, .bool false, .int .i64 0, .int .i64 0]) 5 40 Try.underlying35 HI.out.1 HI.out.2.1 HI.out.2.2.1 HI.out.2.2.2 rfl (by decide) _ _ _ rfl (ownC_empty w1) ad l.length c (flatC l) rfl (flatC_len l) (flatC_cells HAa.out) (flatC_one l) (by unfold maxLen; omega) (by omega) (by simp) ?_; intro v' w2 hown hgrow hnil))
    have hne : v' ≠ .slice none 0 0 := fun h => by
      have := (hnil.1 h).1
      cases this
    simp only [Nat.zero_add, List.nil_append] at hown
    have d2 : Below w1.heap.size w1 w2 := ((Below.refl _ _).alloc (Nat.le_refl _) _).grown hgrow (by simp) (fun k hk => by cases hk; exact Nat.le_refl _)
    clear hnil hgrow HI HAa
    obtain ⟨g, cap, hv⟩ := own_form hown hne
    rw [hv] at hown ⊢
    have hG := cat_own hown
    clear hown hne hv
    have hB := HA1.out.on d2
    have d3 := d1.trans (d2.mono d1.size)
    clear d1 d2 HA1
    go_wp2_with fail
    refine (merge_any (some ⟨g, 0, none⟩) cap l _ hG HO.out (by omega)).mono ?_
    rintro e w3 ⟨rfl, n3⟩
    have hG3 := hG.on n3
    have hB3 := hB.on n3
    have d4 := d3.trans (n3.mono d3.size)
    clear hG hB d3 n3
    go_wp2_with fail
    have A := Box.new w3 w3.heap.size (mergeL l) rfl
    have hGW := Lib.hid (hG3.on (aBelow w3 (.cells #[.int .i64 (mergeL l).cnt, .int .i64 (mergeL l).sn, .bool (mergeL l).so, .int .i64 (mergeL l).mn, .int .i64 (mergeL l).mx] 25)))
    have hBW := Lib.hid (hB3.on (aBelow w3 (.cells #[.int .i64 (mergeL l).cnt, .int .i64 (mergeL l).sn, .bool (mergeL l).so, .int .i64 (mergeL l).mn, .int .i64 (mergeL l).mx] 25)))
    have d5 := d4.alloc d4.size (.cells #[.int .i64 (mergeL l).cnt, .int .i64 (mergeL l).sn, .bool (mergeL l).so, .int .i64 (mergeL l).mn, .int .i64 (mergeL l).mx] 25)
    clear hG3 hB3 d4
    generalize w3.alloc (.cells #[.int .i64 (mergeL l).cnt, .int .i64 (mergeL l).sn, .bool (mergeL l).so, .int .i64 (mergeL l).mn, .int .i64 (mergeL l).mx] 25) = W at *
    generalize w3.heap.size = sb at *
    go_loopw [5] (fun i wr => ∃ k nq : Nat, k ≤ l.length ∧ i = .int .i64 k ∧ wr = W.drewN nq) (fun i _ => l.length - (intOf i).toNat)
    case atStart => exact ⟨0, 0, Nat.zero_le _, rfl, rfl⟩
    case round =>
      obtain ⟨k, nq, hk, rfl, rfl⟩ := hrel
      by_cases hlt : k < l.length
      · obtain ⟨g1, o1, ha1, _, hL1⟩ := hGW.out (ne_of_lt hlt)
        obtain ⟨b, o, ha, _, hL2⟩ := hBW.out (ne_of_lt hlt)
        cases ha1
        cases ha
        obtain ⟨c0, c1, c2, c3, c4⟩ := hL1 k hlt
        obtain ⟨e0, e1, e2, e3, e4⟩ := hL2 k hlt
        rw [Nat.zero_add] at c0 c1 c2 c3 c4
        generalize l[k] = x at *
        have q0 : (x.cnt == x.cnt) = true := by simp
        have q1 : (x.sn == x.sn) = true := by simp
        have q2 : (x.so == x.so) = true := by simp
        have q3 : (x.mn == x.mn) = true := by simp
        have q4 : (x.mx == x.mx) = true := by simp
        have i1 : (k : Int) < (l.length : Int) := by omega
        have i2 : (0 : Int) ≤ (k : Int) := by omega
        clear hL1 hL2 A hGW hBW d5
        go_wp2_with fail
        go_quiet (fail)
        go_wp2_with fail
        exact ⟨⟨k + 1, _, by omega, by go_num, rfl⟩, by simp [intOf]; omega⟩
      · have A2 : Box (W.drewN nq).drew sb (mergeL l) := A
        have hB2 : CAt (W.drewN nq).drew (some ad) l := hBW.out
        have d6 : Below w.heap.size w (W.drewN nq).drew := d5.trans ⟨rfl, rfl, rfl, Nat.le_refl _, fun _ _ => rfl⟩
        clear hGW hBW d5 A
        go_wp2_with fail
        refine wp_region_held_drew (S := fun w' => Box w' sb (mergeL l) ∧ Below w.heap.size w w') (by kernel_rfl) ⟨A2, d6⟩ (fun hHeld => ?_)
        refine wpAnyH_take (i := 0) (oi := { dst := some 31, op := Op.load 25 (Operand.tmp 4), type := 25, pos := "law.go:58", after := #[], guard := none }) (v := ?_) rfl (by kernel_rfl) (by kernel_rfl) (by kernel_rfl) (fun _ _ _ h => h) (Or.inl ⟨by rfl, ?_⟩) hHeld ?_
        rotate_left
        · intro w hSw
          obtain ⟨⟨s0, s1, s2, s3, s4⟩, _⟩ := hSw
          go_simp
          (try with_reducible rfl)
        (try simp only [Act.put, List.setIfInBounds_toArray, List.set_cons_zero, List.set_cons_succ])
        refine wpAnyH_take (i := 1) (oi := { dst := some 32, op := Op.move (Operand.tmp 0), type := 35, pos := "law.go:58", after := #[], guard := none }) (v := ?_) rfl (by kernel_rfl) (by kernel_rfl) (by kernel_rfl) (fun _ _ _ h => h) (Or.inl ⟨by rfl, ?_⟩) hHeld ?_
        rotate_left
        · intro w hSw
          (try dsimp only at hSw)
          go_simp
          (try with_reducible rfl)
        (try simp only [Act.put, List.setIfInBounds_toArray, List.set_cons_zero, List.set_cons_succ])
        refine wpAnyH_ready (rs := [2]) (by kernel_rfl) (by simp) ?_
        refine AllReadyH.cons (o := { dst := some 33, op := Op.call { callee := Callee.value (Operand.func 16), args := #[Operand.tmp 32], argTypes := #[35] }, type := 25, pos := "law.go:58", after := #[{ on := 1, ground := Ground.data }], guard := none }) rfl (fun K hK => ?_) AllReadyH.nil
        go_simp
        refine (refMerge_any (some ad) c l _ hB2 HO.out (by omega)).mono ?_
        rintro e w7 ⟨rfl, m7⟩
        have S7 := And.intro (A2.on m7) (d6.trans (m7.mono d6.size))
        clear A2 d6 hHeld m7
        (try go_wp2_with fail)
        refine hK.out _ _ S7 (fun hHeld => ?_)
        clear hK K
        (try simp only [Act.put, List.setIfInBounds_toArray, List.set_cons_zero, List.set_cons_succ])
        generalize mergeL l = F at *
        have q0 : (F.cnt == F.cnt) = true := by simp
        have q1 : (F.sn == F.sn) = true := by simp
        have q2 : (F.so == F.so) = true := by simp
        have q3 : (F.mn == F.mn) = true := by simp
        have q4 : (F.mx == F.mx) = true := by simp
        refine wpAnyH_take (i := 3) (oi := { dst := some 34, op := Op.binOp BinOp.eql 25 (Operand.tmp 31) (Operand.tmp 33) 25, type := 4, pos := "law.go:58", after := #[{ on := 0, ground := Ground.data }, { on := 2, ground := Ground.data }], guard := none }) (v := .bool true) rfl (by kernel_rfl) (by kernel_rfl) (by kernel_rfl) (fun _ _ _ h => h) (Or.inl ⟨by rfl, ?_⟩) hHeld ?_
        · intro w hSw
          (try dsimp only at hSw)
          go_simp
          (try with_reducible rfl)
        (try simp only [Act.put, List.setIfInBounds_toArray, List.set_cons_zero, List.set_cons_succ])
        clear q0 q1 q2 q3 q4
        refine wpAnyH_take (i := 4) (oi := { dst := some 2, op := Op.assign (Operand.tmp 34), type := 4, pos := "law.go:58", after := #[{ on := 3, ground := Ground.data }, { on := 2, ground := Ground.chain }, { on := 0, ground := Ground.phase }, { on := 1, ground := Ground.phase }, { on := 2, ground := Ground.phase }, { on := 3, ground := Ground.phase }], guard := none }) (v := ?_) rfl (by kernel_rfl) (by kernel_rfl) (by kernel_rfl) (fun _ _ _ h => h) (Or.inl ⟨by rfl, ?_⟩) hHeld ?_
        rotate_left
        · intro w hSw
          (try dsimp only at hSw)
          go_simp
          (try with_reducible rfl)
        (try simp only [Act.put, List.setIfInBounds_toArray, List.set_cons_zero, List.set_cons_succ])
        refine wpAnyH_done (by kernel_rfl) ?_ _
        have d7 := S7.2
        clear S7 hHeld
        go_wp2_with fail
        go_ret
        exact ⟨rfl, d7⟩

set_option maxHeartbeats 1000000 in
theorem merge_walk_nil (w : World) :
    Calls Try.prog 5 #[.slice none 0 0] w fun e w' => e = .returned (.bool true) ∧ Below w.heap.size w w' := by
  go_enter Try.func5, Try.ntmps5
  go_wp2_with fail
  refine (alive_any _).mono ?_
  rintro e w1 ⟨rfl, d1⟩
  go_wp2_with fail
  refine (merge_any (some ⟨w1.heap.size, 0, none⟩) 0 [] _ (fun h => absurd rfl h) (fun x hx => by cases hx) (by decide)).mono ?_
  rintro e w3 ⟨rfl, n3⟩
  simp only [f_merge0, zero]
  have d4 := d1.trans ((belowAlloc n3).mono d1.size)
  clear n3 d1
  go_wp2_with fail
  refine wp_loop_rounds 1 ?_
  rw [rounds_succ]
  go_wp2_with fail
  have A := Box.new w3 w3.heap.size zero rfl
  have d5 := d4.alloc d4.size (.cells #[.int .i64 zero.cnt, .int .i64 zero.sn, .bool zero.so, .int .i64 zero.mn, .int .i64 zero.mx] 25)
  simp only [zero] at A d5
  clear d4
  generalize (w3.alloc _) = W at *
  generalize w3.heap.size = sb at *
  have A2 : Box W.drew sb zero := A
  have d6 : Below w.heap.size w W.drew := d5.drew
  clear A d5
  refine wp_region_held_drew (S := fun w' => Box w' sb zero ∧ Below w.heap.size w w') (by kernel_rfl) ⟨A2, d6⟩ (fun hHeld => ?_)
  refine wpAnyH_take (i := 0) (oi := { dst := some 31, op := Op.load 25 (Operand.tmp 4), type := 25, pos := "law.go:58", after := #[], guard := none }) (v := ?_) rfl (by kernel_rfl) (by kernel_rfl) (by kernel_rfl) (fun _ _ _ h => h) (Or.inl ⟨by rfl, ?_⟩) hHeld ?_
  rotate_left
  · intro w hSw
    obtain ⟨⟨s0, s1, s2, s3, s4⟩, _⟩ := hSw
    simp only [zero] at s0 s1 s2 s3 s4
    go_simp
    (try with_reducible rfl)
  (try simp only [Act.put, List.setIfInBounds_toArray, List.set_cons_zero, List.set_cons_succ])
  refine wpAnyH_take (i := 1) (oi := { dst := some 32, op := Op.move (Operand.tmp 0), type := 35, pos := "law.go:58", after := #[], guard := none }) (v := ?_) rfl (by kernel_rfl) (by kernel_rfl) (by kernel_rfl) (fun _ _ _ h => h) (Or.inl ⟨by rfl, ?_⟩) hHeld ?_
  rotate_left
  · intro w hSw
    (try dsimp only at hSw)
    go_simp
    (try with_reducible rfl)
  (try simp only [Act.put, List.setIfInBounds_toArray, List.set_cons_zero, List.set_cons_succ])
  refine wpAnyH_ready (rs := [2]) (by kernel_rfl) (by simp) ?_
  refine AllReadyH.cons (o := { dst := some 33, op := Op.call { callee := Callee.value (Operand.func 16), args := #[Operand.tmp 32], argTypes := #[35] }, type := 25, pos := "law.go:58", after := #[{ on := 1, ground := Ground.data }], guard := none }) rfl (fun K hK => ?_) AllReadyH.nil
  go_simp
  refine (refMerge_any none 0 [] _ (fun h => absurd rfl h) (fun x hx => by cases hx) (by decide)).mono ?_
  rintro e w7 ⟨rfl, m7⟩
  have S7 := And.intro (A2.on m7) (d6.trans (m7.mono d6.size))
  clear A2 d6 hHeld m7
  simp only [f_merge0, zero]
  (try go_wp2_with fail)
  refine hK.out _ _ S7 (fun hHeld => ?_)
  clear hK K
  (try simp only [Act.put, List.setIfInBounds_toArray, List.set_cons_zero, List.set_cons_succ])
  refine wpAnyH_take (i := 3) (oi := { dst := some 34, op := Op.binOp BinOp.eql 25 (Operand.tmp 31) (Operand.tmp 33) 25, type := 4, pos := "law.go:58", after := #[{ on := 0, ground := Ground.data }, { on := 2, ground := Ground.data }], guard := none }) (v := .bool true) rfl (by kernel_rfl) (by kernel_rfl) (by kernel_rfl) (fun _ _ _ h => h) (Or.inl ⟨by rfl, ?_⟩) hHeld ?_
  · intro w hSw
    (try dsimp only at hSw)
    go_simp
    (try with_reducible rfl)
  (try simp only [Act.put, List.setIfInBounds_toArray, List.set_cons_zero, List.set_cons_succ])
  refine wpAnyH_take (i := 4) (oi := { dst := some 2, op := Op.assign (Operand.tmp 34), type := 4, pos := "law.go:58", after := #[{ on := 3, ground := Ground.data }, { on := 2, ground := Ground.chain }, { on := 0, ground := Ground.phase }, { on := 1, ground := Ground.phase }, { on := 2, ground := Ground.phase }, { on := 3, ground := Ground.phase }], guard := none }) (v := ?_) rfl (by kernel_rfl) (by kernel_rfl) (by kernel_rfl) (fun _ _ _ h => h) (Or.inl ⟨by rfl, ?_⟩) hHeld ?_
  rotate_left
  · intro w hSw
    (try dsimp only at hSw)
    go_simp
    (try with_reducible rfl)
  (try simp only [Act.put, List.setIfInBounds_toArray, List.set_cons_zero, List.set_cons_succ])
  refine wpAnyH_done (by kernel_rfl) ?_ _
  have d7 := S7.2
  clear S7 hHeld
  go_wp2_with fail
  go_ret
  exact ⟨rfl, d7⟩

/-- The law, of any slice. -/
theorem merge_walk (a : Option Addr) (c : Nat) (l : List Cell) (w : World) (hA : CAt w a l) (ho : ∀ x ∈ l, okC x) (hn : a = none → l = [] ∧ c = 0) :
    Calls Try.prog 5 #[.slice a l.length c] w fun e w' => e = .returned (.bool true) ∧ Below w.heap.size w w' := by
  cases a with
  | none =>
    obtain ⟨rfl, rfl⟩ := hn rfl
    exact merge_walk_nil w
  | some ad => exact merge_walk_some ad c l w hA ho
end Go.Proofs.Ytnpnikgbjdeboaa
