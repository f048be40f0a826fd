/- Walks: the law CellOf. -/
import Derived.Test.YtnpnikgbjdeboaaC8
import Derived.BigQuiet
namespace Go.Proofs.Ytnpnikgbjdeboaa
open Go Go.RowKit Cl

/-- The samples' cells, one behind the other. -/
def flatI (l : List Int) : List Value := l.map fun x => .int .i64 x
theorem flatI_len (l : List Int) : (flatI l).length = l.length * 1 := by simp [flatI]
theorem flatI_one (l : List Int) : ∀ u ∈ flatI l, u.oneCell' = true := by
  intro u hu
  simp only [flatI, List.mem_map] at hu
  obtain ⟨x, _, rfl⟩ := hu
  rfl
theorem flatI_cells {w : World} {ad : Addr} {l : List Int} (hA : IAt w (some ad) l) : ∀ j u, (flatI l)[j]? = some u → w.cell? (ad.add j) = some u := by
  intro j u hu
  have hj : j < l.length := by have := (List.getElem?_eq_some_iff.1 hu).1; simpa [flatI] using this
  obtain ⟨b, o, ha, _, hL⟩ := hA (ne_of_lt hj)
  cases ha
  have hadd : (⟨b, o, none⟩ : Addr).add j = ⟨b, o + j, none⟩ := by simp [Addr.add]
  rw [hadd, hL j hj, ← hu]
  simp [flatI, hj]
theorem iat_own {w : World} {base g cap : Nat} {l : List Int} (h : w.ownsRow base 2 1 (.slice (some ⟨g, 0, none⟩) l.length cap) l.length (flatI l)) : IAt w (some ⟨g, 0, none⟩) l := by
  intro hne
  rcases h.2 with ⟨h0, _⟩ | ⟨g', cap', cur, hv, _, hg, _, _, hc, ht⟩
  · cases h0
  · cases hv
    refine ⟨g, 0, rfl, ?_, ?_⟩
    · rcases Nat.lt_or_ge g w.heap.size with hlt | hge
      · exact hlt
      · rw [Array.getElem?_eq_none hge] at hg; cases hg
    · intro i hi
      have hcell : ∀ j, w.cell? ⟨g, j, none⟩ = cur[j]? := fun j => cell_of_row w g j cur 2 (0, 0) hg
      have f1 : (flatI l)[i]? = some (.int .i64 l[i]) := by simp [flatI, hi]
      rw [← ht, List.getElem?_take] at f1
      rw [hcell, Nat.zero_add]
      rw [if_pos (by omega)] at f1
      simpa using f1
theorem ownI_empty (w : World) : (w.alloc (.cells #[] 2)).ownsRow w.heap.size 2 1 (.slice (some ⟨w.heap.size, 0, none⟩) 0 0) 0 [] :=
  ⟨by simp, .inr ⟨w.heap.size, 0, #[], rfl, Nat.le_refl _, heap_alloc_new w _, Nat.le_refl _, by decide, by simp, by simp⟩⟩
theorem own_form {w : World} {base n t k : Nat} {v : Value} {xs : List Value} (h : w.ownsRow base t k v n xs) (hv : v ≠ .slice none 0 0) : ∃ g cap, v = .slice (some ⟨g, 0, none⟩) n cap := by
  rcases h.2 with ⟨h0, _⟩ | ⟨g, cap, cur, hv', hb, hg, _⟩
  · exact absurd h0 hv
  · exact ⟨g, cap, hv'⟩
theorem info2 : ∃ i, Try.prog.info? 2 = some i ∧ i.zero = some (.int .i64 0) ∧ i.size = 1 ∧ i.bytes = 8 := ⟨_, rfl, rfl, rfl, rfl⟩

set_option maxHeartbeats 1000000 in
theorem of_walk_some (ad : Addr) (c : Nat) (l : List Int) (w : World) (hA : IAt w (some ad) l) (ho : ∀ x ∈ l, ok64 x) :
    Calls Try.prog 4 #[.slice (some ad) l.length c] w fun e w' => e = .returned (.bool true) ∧ Below w.heap.size w w' := by
  have HO := Lib.hid ho
  clear ho
  have HA := Lib.hid hA
  clear hA
  go_enter Try.func4, Try.ntmps4
  go_wp2_with fail
  refine (alive_any _).mono ?_
  rintro e w1 ⟨rfl, d1⟩
  by_cases hl : 1000 < l.length
  · go_wp2_with fail
    go_ret
    exact ⟨rfl, d1⟩
  · have hl2 : (l.length : Int) ≤ 1000 := by omega
    have HA1 := Lib.hid (HA.out.on d1)
    obtain ⟨i0, hi, hz0, hz1, hz2⟩ := info2
    have HI := Lib.hid (And.intro hi (And.intro hz0 (And.intro hz1 hz2)))
    clear hi hz0 hz1 hz2 HA
    have HAa := Lib.hid (HA1.out.on (aBelow w1 (.cells #[] 2)))
    go_wp2_with (first | (at_builtin; refine wpList_append_own _ rfl _ _ 31 rfl w1.heap.size 2 i0 (.int .i64 0) 1 8 Try.underlying31 HI.out.1 HI.out.2.1 HI.out.2.2.1 HI.out.2.2.2 rfl (by decide) _ _ _ rfl (ownI_empty w1) ad l.length c (flatI l) rfl (flatI_len l) (flatI_cells HAa.out) (flatI_one l) (by unfold maxLen; omega) (by omega) (by simp) ?_; intro v' w2 hown hgrow hnil))
    have hne : v' ≠ .slice none 0 0 := fun h => by
      have := (hnil.1 h).1
      cases this
    simp only [Nat.zero_add, List.nil_append] at hown
    have d2 : Below w1.heap.size w1 w2 := ((Below.refl _ _).alloc (Nat.le_refl _) _).grown hgrow (by simp) (fun k hk => by cases hk; exact Nat.le_refl _)
    clear hnil hgrow HI HAa
    obtain ⟨g, cap, hv⟩ := own_form hown hne
    rw [hv] at hown ⊢
    have hG := iat_own hown
    clear hown hne hv
    have hB := HA1.out.on d2
    have d3 := d1.trans (d2.mono d1.size)
    clear d1 d2 HA1
    go_wp2_with fail
    refine (ofs_any (some ⟨g, 0, none⟩) cap l _ hG HO.out (by omega)).mono ?_
    rintro e w3 ⟨rfl, n3⟩
    have hG3 := hG.on n3
    have hB3 := hB.on n3
    have d4 := d3.trans (n3.mono d3.size)
    clear hG hB d3 n3
    go_wp2_with fail
    have A := Box.new w3 w3.heap.size (ofL l) rfl
    have hGW := Lib.hid (hG3.on (aBelow w3 (.cells #[.int .i64 (ofL l).cnt, .int .i64 (ofL l).sn, .bool (ofL l).so, .int .i64 (ofL l).mn, .int .i64 (ofL l).mx] 25)))
    have hBW := Lib.hid (hB3.on (aBelow w3 (.cells #[.int .i64 (ofL l).cnt, .int .i64 (ofL l).sn, .bool (ofL l).so, .int .i64 (ofL l).mn, .int .i64 (ofL l).mx] 25)))
    have d5 := d4.alloc d4.size (.cells #[.int .i64 (ofL l).cnt, .int .i64 (ofL l).sn, .bool (ofL l).so, .int .i64 (ofL l).mn, .int .i64 (ofL l).mx] 25)
    clear hG3 hB3 d4
    generalize w3.alloc (.cells #[.int .i64 (ofL l).cnt, .int .i64 (ofL l).sn, .bool (ofL l).so, .int .i64 (ofL l).mn, .int .i64 (ofL l).mx] 25) = W at *
    generalize w3.heap.size = sb at *
    go_loopw [5] (fun i wr => ∃ k nq : Nat, k ≤ l.length ∧ i = .int .i64 k ∧ wr = W.drewN nq) (fun i _ => l.length - (intOf i).toNat)
    case atStart => exact ⟨0, 0, Nat.zero_le _, rfl, rfl⟩
    case round =>
      obtain ⟨k, nq, hk, rfl, rfl⟩ := hrel
      by_cases hlt : k < l.length
      · obtain ⟨g1, o1, ha1, _, hL1⟩ := hGW.out (ne_of_lt hlt)
        obtain ⟨b, o, ha, _, hL2⟩ := hBW.out (ne_of_lt hlt)
        cases ha1
        cases ha
        have c1 := hL1 k hlt
        have c2 := hL2 k hlt
        rw [Nat.zero_add] at c1
        have i1 : (k : Int) < (l.length : Int) := by omega
        have i2 : (0 : Int) ≤ (k : Int) := by omega
        clear hL1 hL2 A hGW hBW d5
        go_wp2_with fail
        go_quiet (fail)
        go_wp2_with fail
        exact ⟨⟨k + 1, _, by omega, by go_num, rfl⟩, by simp [intOf]; omega⟩
      · have A2 : Box (W.drewN nq).drew sb (ofL l) := A
        have hB2 : IAt (W.drewN nq).drew (some ad) l := hBW.out
        have d6 : Below w.heap.size w (W.drewN nq).drew := d5.trans ⟨rfl, rfl, rfl, Nat.le_refl _, fun _ _ => rfl⟩
        clear hGW hBW d5 A
        go_wp2_with fail
        refine wp_region_held_drew (S := fun w' => Box w' sb (ofL l) ∧ Below w.heap.size w w') (by kernel_rfl) ⟨A2, d6⟩ (fun hHeld => ?_)
        refine wpAnyH_take (i := 0) (oi := { dst := some 31, op := Op.load 25 (Operand.tmp 4), type := 25, pos := "law.go:40", after := #[], guard := none }) (v := ?_) rfl (by kernel_rfl) (by kernel_rfl) (by kernel_rfl) (fun _ _ _ h => h) (Or.inl ⟨by rfl, ?_⟩) hHeld ?_
        rotate_left
        · intro w hSw
          obtain ⟨⟨s0, s1, s2, s3, s4⟩, _⟩ := hSw
          go_simp
          (try with_reducible rfl)
        (try simp only [Act.put, List.setIfInBounds_toArray, List.set_cons_zero, List.set_cons_succ])
        refine wpAnyH_take (i := 1) (oi := { dst := some 32, op := Op.move (Operand.tmp 0), type := 31, pos := "law.go:40", after := #[], guard := none }) (v := ?_) rfl (by kernel_rfl) (by kernel_rfl) (by kernel_rfl) (fun _ _ _ h => h) (Or.inl ⟨by rfl, ?_⟩) hHeld ?_
        rotate_left
        · intro w hSw
          (try dsimp only at hSw)
          go_simp
          (try with_reducible rfl)
        (try simp only [Act.put, List.setIfInBounds_toArray, List.set_cons_zero, List.set_cons_succ])
        refine wpAnyH_ready (rs := [2]) (by kernel_rfl) (by simp) ?_
        refine AllReadyH.cons (o := { dst := some 33, op := Op.call { callee := Callee.value (Operand.func 14), args := #[Operand.tmp 32], argTypes := #[31] }, type := 25, pos := "law.go:40", after := #[{ on := 1, ground := Ground.data }], guard := none }) rfl (fun K hK => ?_) AllReadyH.nil
        go_simp
        refine (refOfs_any (some ad) c l _ hB2 HO.out (by omega)).mono ?_
        rintro e w7 ⟨rfl, m7⟩
        have S7 := And.intro (A2.on m7) (d6.trans (m7.mono d6.size))
        clear A2 d6 hHeld m7
        (try go_wp2_with fail)
        refine hK.out _ _ S7 (fun hHeld => ?_)
        clear hK K
        (try simp only [Act.put, List.setIfInBounds_toArray, List.set_cons_zero, List.set_cons_succ])
        generalize ofL l = F at *
        have q0 : (F.cnt == F.cnt) = true := by simp
        have q1 : (F.sn == F.sn) = true := by simp
        have q2 : (F.so == F.so) = true := by simp
        have q3 : (F.mn == F.mn) = true := by simp
        have q4 : (F.mx == F.mx) = true := by simp
        refine wpAnyH_take (i := 3) (oi := { dst := some 34, op := Op.binOp BinOp.eql 25 (Operand.tmp 31) (Operand.tmp 33) 25, type := 4, pos := "law.go:40", after := #[{ on := 0, ground := Ground.data }, { on := 2, ground := Ground.data }], guard := none }) (v := .bool true) rfl (by kernel_rfl) (by kernel_rfl) (by kernel_rfl) (fun _ _ _ h => h) (Or.inl ⟨by rfl, ?_⟩) hHeld ?_
        · intro w hSw
          (try dsimp only at hSw)
          go_simp
          (try with_reducible rfl)
        (try simp only [Act.put, List.setIfInBounds_toArray, List.set_cons_zero, List.set_cons_succ])
        clear q0 q1 q2 q3 q4
        refine wpAnyH_take (i := 4) (oi := { dst := some 2, op := Op.assign (Operand.tmp 34), type := 4, pos := "law.go:40", after := #[{ on := 3, ground := Ground.data }, { on := 2, ground := Ground.chain }, { on := 0, ground := Ground.phase }, { on := 1, ground := Ground.phase }, { on := 2, ground := Ground.phase }, { on := 3, ground := Ground.phase }], guard := none }) (v := ?_) rfl (by kernel_rfl) (by kernel_rfl) (by kernel_rfl) (fun _ _ _ h => h) (Or.inl ⟨by rfl, ?_⟩) hHeld ?_
        rotate_left
        · intro w hSw
          (try dsimp only at hSw)
          go_simp
          (try with_reducible rfl)
        (try simp only [Act.put, List.setIfInBounds_toArray, List.set_cons_zero, List.set_cons_succ])
        refine wpAnyH_done (by kernel_rfl) ?_ _
        have d7 := S7.2
        clear S7 hHeld
        go_wp2_with fail
        go_ret
        exact ⟨rfl, d7⟩

set_option maxHeartbeats 1000000 in
theorem of_walk_nil (w : World) :
    Calls Try.prog 4 #[.slice none 0 0] w fun e w' => e = .returned (.bool true) ∧ Below w.heap.size w w' := by
  go_enter Try.func4, Try.ntmps4
  go_wp2_with fail
  refine (alive_any _).mono ?_
  rintro e w1 ⟨rfl, d1⟩
  go_wp2_with fail
  refine (ofs_any (some ⟨w1.heap.size, 0, none⟩) 0 [] _ (fun h => absurd rfl h) (fun x hx => by cases hx) (by decide)).mono ?_
  rintro e w3 ⟨rfl, n3⟩
  simp only [f_of0, zero]
  have d4 := d1.trans ((belowAlloc n3).mono d1.size)
  clear n3 d1
  go_wp2_with fail
  refine wp_loop_rounds 1 ?_
  rw [rounds_succ]
  go_wp2_with fail
  have A := Box.new w3 w3.heap.size zero rfl
  have d5 := d4.alloc d4.size (.cells #[.int .i64 zero.cnt, .int .i64 zero.sn, .bool zero.so, .int .i64 zero.mn, .int .i64 zero.mx] 25)
  simp only [zero] at A d5
  clear d4
  generalize (w3.alloc _) = W at *
  generalize w3.heap.size = sb at *
  have A2 : Box W.drew sb zero := A
  have d6 : Below w.heap.size w W.drew := d5.drew
  clear A d5
  refine wp_region_held_drew (S := fun w' => Box w' sb zero ∧ Below w.heap.size w w') (by kernel_rfl) ⟨A2, d6⟩ (fun hHeld => ?_)
  refine wpAnyH_take (i := 0) (oi := { dst := some 31, op := Op.load 25 (Operand.tmp 4), type := 25, pos := "law.go:40", after := #[], guard := none }) (v := ?_) rfl (by kernel_rfl) (by kernel_rfl) (by kernel_rfl) (fun _ _ _ h => h) (Or.inl ⟨by rfl, ?_⟩) hHeld ?_
  rotate_left
  · intro w hSw
    obtain ⟨⟨s0, s1, s2, s3, s4⟩, _⟩ := hSw
    simp only [zero] at s0 s1 s2 s3 s4
    go_simp
    (try with_reducible rfl)
  (try simp only [Act.put, List.setIfInBounds_toArray, List.set_cons_zero, List.set_cons_succ])
  refine wpAnyH_take (i := 1) (oi := { dst := some 32, op := Op.move (Operand.tmp 0), type := 31, pos := "law.go:40", after := #[], guard := none }) (v := ?_) rfl (by kernel_rfl) (by kernel_rfl) (by kernel_rfl) (fun _ _ _ h => h) (Or.inl ⟨by rfl, ?_⟩) hHeld ?_
  rotate_left
  · intro w hSw
    (try dsimp only at hSw)
    go_simp
    (try with_reducible rfl)
  (try simp only [Act.put, List.setIfInBounds_toArray, List.set_cons_zero, List.set_cons_succ])
  refine wpAnyH_ready (rs := [2]) (by kernel_rfl) (by simp) ?_
  refine AllReadyH.cons (o := { dst := some 33, op := Op.call { callee := Callee.value (Operand.func 14), args := #[Operand.tmp 32], argTypes := #[31] }, type := 25, pos := "law.go:40", after := #[{ on := 1, ground := Ground.data }], guard := none }) rfl (fun K hK => ?_) AllReadyH.nil
  go_simp
  refine (refOfs_any none 0 [] _ (fun h => absurd rfl h) (fun x hx => by cases hx) (by decide)).mono ?_
  rintro e w7 ⟨rfl, m7⟩
  have S7 := And.intro (A2.on m7) (d6.trans (m7.mono d6.size))
  clear A2 d6 hHeld m7
  simp only [f_of0, zero]
  (try go_wp2_with fail)
  refine hK.out _ _ S7 (fun hHeld => ?_)
  clear hK K
  (try simp only [Act.put, List.setIfInBounds_toArray, List.set_cons_zero, List.set_cons_succ])
  refine wpAnyH_take (i := 3) (oi := { dst := some 34, op := Op.binOp BinOp.eql 25 (Operand.tmp 31) (Operand.tmp 33) 25, type := 4, pos := "law.go:40", after := #[{ on := 0, ground := Ground.data }, { on := 2, ground := Ground.data }], guard := none }) (v := .bool true) rfl (by kernel_rfl) (by kernel_rfl) (by kernel_rfl) (fun _ _ _ h => h) (Or.inl ⟨by rfl, ?_⟩) hHeld ?_
  · intro w hSw
    (try dsimp only at hSw)
    go_simp
    (try with_reducible rfl)
  (try simp only [Act.put, List.setIfInBounds_toArray, List.set_cons_zero, List.set_cons_succ])
  refine wpAnyH_take (i := 4) (oi := { dst := some 2, op := Op.assign (Operand.tmp 34), type := 4, pos := "law.go:40", after := #[{ on := 3, ground := Ground.data }, { on := 2, ground := Ground.chain }, { on := 0, ground := Ground.phase }, { on := 1, ground := Ground.phase }, { on := 2, ground := Ground.phase }, { on := 3, ground := Ground.phase }], guard := none }) (v := ?_) rfl (by kernel_rfl) (by kernel_rfl) (by kernel_rfl) (fun _ _ _ h => h) (Or.inl ⟨by rfl, ?_⟩) hHeld ?_
  rotate_left
  · intro w hSw
    (try dsimp only at hSw)
    go_simp
    (try with_reducible rfl)
  (try simp only [Act.put, List.setIfInBounds_toArray, List.set_cons_zero, List.set_cons_succ])
  refine wpAnyH_done (by kernel_rfl) ?_ _
  have d7 := S7.2
  clear S7 hHeld
  go_wp2_with fail
  go_ret
  exact ⟨rfl, d7⟩

/-- The law, of any slice. -/
theorem of_walk (a : Option Addr) (c : Nat) (l : List Int) (w : World) (hA : IAt w a l) (ho : ∀ x ∈ l, ok64 x) (hn : a = none → l = [] ∧ c = 0) :
    Calls Try.prog 4 #[.slice a l.length c] w fun e w' => e = .returned (.bool true) ∧ Below w.heap.size w w' := by
  cases a with
  | none =>
    obtain ⟨rfl, rfl⟩ := hn rfl
    exact of_walk_nil w
  | some ad => exact of_walk_some ad c l w hA ho
end Go.Proofs.Ytnpnikgbjdeboaa
