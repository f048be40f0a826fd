/- A sample folded, and what nobody reads pruned: walks of the document's. -/
import Derived.Test.YthiofbohllmfbaaV3
namespace Go.Proofs.Ythiofbohllmfbaa.Ch
open Go Go.RowKit Go.Sort Go.Lib Cl Ce

theorem one_ver (w : World) (x : Ver) : VRow (w.alloc (.cells #[.int .i64 x.st, .int .i64 x.c.cnt, .int .i64 x.c.sn, .bool x.c.so, .int .i64 x.c.mn, .int .i64 x.c.mx] 81)) (.slice (some ⟨w.heap.size, 0, none⟩) 1 1) [x] := by
  refine ⟨_, 1, rfl, Nat.le_refl _, fun _ => ⟨w.heap.size, 0, rfl, by simp, ?_⟩⟩
  intro i hi j u hu
  have : i = 0 := by simpa using hi
  subst this
  have e : (verC x)[j]? = some u := hu
  rw [Nat.zero_mul, Nat.zero_add, cell_of_row _ w.heap.size j #[.int .i64 x.st, .int .i64 x.c.cnt, .int .i64 x.c.sn, .bool x.c.so, .int .i64 x.c.mn, .int .i64 x.c.mx] 81 (0, 0) (heap_alloc_new _ _)]
  simpa [verC] using e
theorem new1V (w : World) (x : Ver) : ∀ j u, (verC x)[j]? = some u → (w.alloc (.cells #[.int .i64 x.st, .int .i64 x.c.cnt, .int .i64 x.c.sn, .bool x.c.so, .int .i64 x.c.mn, .int .i64 x.c.mx] 81)).cell? ((⟨w.heap.size, 0, none⟩ : Addr).add j) = some u := by
  intro j u hu
  rw [addr_add, Nat.zero_add, cell_of_row _ w.heap.size j #[.int .i64 x.st, .int .i64 x.c.cnt, .int .i64 x.c.sn, .bool x.c.so, .int .i64 x.c.mn, .int .i64 x.c.mx] 81 (0, 0) (heap_alloc_new _ _)]
  simpa [verC] using hu
set_option maxRecDepth 100000 in
set_option maxHeartbeats 2000000 in
theorem refFoldV_some (v : Value) (l : List Ver) (s x : Int) (w : World) (h : VRow w v l) (hn : l.length ≤ 999) (ho : ∀ y ∈ l, okV y) (hx : ok64 x) (h0 : l ≠ []) :
    Calls Try.prog 30 #[v, .int .i64 s, .int .i64 x] w fun e w' => (∃ v', e = .returned (.tuple #[v', .int .i64 (foldV l s x).2]) ∧ VOwn w.heap.size w' v' (foldV l s x).1) ∧ Below w.heap.size w w' := by
  have hpos : 0 < l.length := List.length_pos_iff.2 h0
  have HP := fun W (d : Below w.heap.size w W) u (k : VRow W u [⟨s, fold (lastC l) x⟩]) => refPut_any v u l [⟨s, fold (lastC l) x⟩] W (h.on d) k (by omega) (by simp)
  have hok : okC (lastC l) := by rw [lastC_at hpos]; exact (ho _ (List.getElem_mem _)).2
  have HF := fun W => refFold_any (lastC l) x W hok hx
  have HLC := Lib.hid (lastC_at hpos)
  obtain ⟨a, c, rfl, hc, hl⟩ := h
  obtain ⟨b, o, rfl, hb, hL⟩ := hl h0
  have HC := v_at hL (l.length - 1) (by omega)
  rw [HLC.out] at HF
  have hz : (0 : Int) < (l.length : Int) := by omega
  have i1 : (0 : Int) ≤ (l.length : Int) - 1 := by omega
  have i2 : (l.length : Int) - 1 < (l.length : Int) := by omega
  have i3 : ((l.length : Int) - 1).toNat = l.length - 1 := by omega
  have i4 : IntKind.i64.wrap ((l.length : Int) - 1) = (l.length : Int) - 1 := by rw [IntKind.wrap_i64]; omega
  show Calls Try.prog 30 #[.slice (some ⟨b, o, none⟩) l.length c, .int .i64 s, .int .i64 x] w fun e w' => (∃ v', e = .returned (.tuple #[v', .int .i64 (putV l [⟨s, fold (lastC l) x⟩]).2]) ∧ VOwn w.heap.size w' v' (putV l [⟨s, fold (lastC l) x⟩]).1) ∧ Below w.heap.size w w'
  generalize putV l [⟨s, fold (lastC l) x⟩] = PV at *
  rw [HLC.out] at HP
  clear HLC hok ho hL hl
  generalize l[l.length - 1] = y at *
  obtain ⟨y0, y1, y2, y3, y4, y5⟩ := y
  obtain ⟨e0, e1, e2, e3, e4, e5⟩ := HC
  simp only at e0 e1 e2 e3 e4 e5 HF HP
  have HP := Lib.hid HP
  have HF := Lib.hid HF
  generalize fold ⟨y1, y2, y3, y4, y5⟩ x = D at *
  go_enter Try.func30, Try.ntmps30
  go_wp2_with fail
  refine (HF.out _).mono ?_
  rintro e w2 ⟨rfl, n2⟩
  have d2 := (aBelow w (.cells #[.int .i64 y1, .int .i64 y2, .bool y3, .int .i64 y4, .int .i64 y5] 52)).trans (n2.mono (by simp))
  clear n2 HF
  go_wp2_with fail
  have d3 := d2.alloc d2.size (.cells #[.int .i64 s, .int .i64 D.cnt, .int .i64 D.sn, .bool D.so, .int .i64 D.mn, .int .i64 D.mx] 81)
  refine (HP.out _ d3 _ (one_ver w2 ⟨s, D⟩)).mono ?_
  rintro e w4 ⟨⟨_, rfl, r4⟩, n4⟩
  have R4 := Lib.hid (r4.base d3.size)
  obtain ⟨p4, q4, rfl, -, -⟩ := r4.row
  clear r4
  have d4 := d3.trans (n4.mono d3.size)
  clear n4 d2 d3 HP
  go_wp2_with fail
  go_ret2
  exact ⟨⟨_, rfl, R4.out⟩, d4⟩
set_option maxRecDepth 100000 in
set_option maxHeartbeats 2000000 in
theorem refFoldV_none (v : Value) (l : List Ver) (s x : Int) (w : World) (h : VRow w v l) (hx : ok64 x) (h0 : l = []) :
    Calls Try.prog 30 #[v, .int .i64 s, .int .i64 x] w fun e w' => (∃ v', e = .returned (.tuple #[v', .int .i64 (foldV l s x).2]) ∧ VOwn w.heap.size w' v' (foldV l s x).1) ∧ Below w.heap.size w w' := by
  have HP := fun W (d : Below w.heap.size w W) u (k : VRow W u [⟨s, fold zero x⟩]) => refPut_any v u l [⟨s, fold zero x⟩] W (h.on d) k (by rw [h0]; simp) (by simp)
  have HF := fun W => refFold_any zero x W ok_zero hx
  have e : foldV l s x = putV l [⟨s, fold zero x⟩] := by rw [h0]; rfl
  rw [e]
  obtain ⟨a, c, rfl, hc, hl⟩ := h
  have hlen : l.length = 0 := by rw [h0]; rfl
  rw [hlen] at HP ⊢
  clear hl e
  have HP := Lib.hid HP
  have HF := Lib.hid HF
  generalize putV l [⟨s, fold zero x⟩] = PV at *
  generalize fold zero x = D at *
  unfold zero at HF
  go_enter Try.func30, Try.ntmps30
  go_wp2_with fail
  refine (HF.out _).mono ?_
  rintro e w2 ⟨rfl, n2⟩
  have d2 := (aBelow w (.cells #[.int .i64 0, .int .i64 0, .bool false, .int .i64 0, .int .i64 0] 52)).trans (n2.mono (by simp))
  clear n2 HF
  go_wp2_with fail
  have d3 := d2.alloc d2.size (.cells #[.int .i64 s, .int .i64 D.cnt, .int .i64 D.sn, .bool D.so, .int .i64 D.mn, .int .i64 D.mx] 81)
  refine (HP.out _ d3 _ (one_ver w2 ⟨s, D⟩)).mono ?_
  rintro e w4 ⟨⟨_, rfl, r4⟩, n4⟩
  have R4 := Lib.hid (r4.base d3.size)
  obtain ⟨p4, q4, rfl, -, -⟩ := r4.row
  clear r4
  have d4 := d3.trans (n4.mono d3.size)
  clear n4 d2 d3 HP
  go_wp2_with fail
  go_ret2
  exact ⟨⟨_, rfl, R4.out⟩, d4⟩
theorem refFoldV_any (v : Value) (l : List Ver) (s x : Int) (w : World) (h : VRow w v l) (hn : l.length ≤ 999) (ho : ∀ y ∈ l, okV y) (hx : ok64 x) :
    Calls Try.prog 30 #[v, .int .i64 s, .int .i64 x] w fun e w' => (∃ v', e = .returned (.tuple #[v', .int .i64 (foldV l s x).2]) ∧ VOwn w.heap.size w' v' (foldV l s x).1) ∧ Below w.heap.size w w' := by
  by_cases h0 : l = []
  · exact refFoldV_none v l s x w h hx h0
  · exact refFoldV_some v l s x w h hn ho hx h0

/-! ### pruned -/
set_option maxRecDepth 100000 in
set_option maxHeartbeats 2000000 in
theorem refPrune_any (v : Value) (l : List Ver) (f : Int) (w : World) (h : VRow w v l) (hn : l.length ≤ 100000) :
    Calls Try.prog 41 #[v, .int .i64 f] w fun e w' => (∃ v', e = .returned v' ∧ VOwn w.heap.size w' v' (prune l f)) ∧ Below w.heap.size w w' := by
  obtain ⟨j0, hi, hz0, hz1, hz2⟩ := info40
  have HI := Lib.hid (And.intro hi (And.intro hz0 (And.intro hz1 hz2)))
  clear hi hz0 hz1 hz2
  obtain ⟨a, c, rfl, hc, hl⟩ := h
  have HL := Lib.hid hl
  clear hl
  go_enter Try.func41, Try.ntmps41
  go_wp2_with fail
  go_loopw [5, 6] (fun last i wr => ∃ (k : Nat), k ≤ l.length ∧ i = .int .i64 k ∧ last = .int .i64 (lastI l k f) ∧ w = wr) (fun _ i _ => l.length - (intOf i).toNat)
  case atStart => exact ⟨0, Nat.zero_le _, rfl, by rw [lastI_zero], rfl⟩
  case round =>
    obtain ⟨k, hk, rfl, rfl, rfl⟩ := hrel
    by_cases hlt : k < l.length
    · obtain ⟨b, o, rfl, hb, hL⟩ := HL.out (Go.Proofs.Ythiofbohllmfbaa.ne_of_lt hlt)
      obtain ⟨e1, e2, e3, e4, e5, e6⟩ := v_at hL k hlt
      have i1 : (k : Int) < (l.length : Int) := by omega
      have i2 : (0 : Int) ≤ (k : Int) := by omega
      have HR := Lib.hid (lastI_next hlt f)
      generalize l[k] = x at *
      generalize lastI l k f = J at *
      clear hL HL
      by_cases hs : x.st ≤ f
      · have q1 : decide (x.st ≤ f) = true := decide_eq_true hs
        rw [if_pos hs] at HR
        clear hs
        go_wp2_with fail
        exact ⟨⟨k + 1, by omega, by go_num, by rw [HR.out], by trivial⟩, by simp [intOf]; omega⟩
      · have q1 : decide (x.st ≤ f) = false := decide_eq_false hs
        rw [if_neg hs] at HR
        clear hs
        go_wp2_with fail
        exact ⟨⟨k + 1, by omega, by go_num, by rw [HR.out], by trivial⟩, by simp [intOf]; omega⟩
    · have i1 : ¬ (k : Int) < (l.length : Int) := by omega
      have hka : k = l.length := by omega
      subst hka
      go_wp2_with fail
      generalize hJ : lastI l l.length f = J at *
      go_loopw [7, 8] (fun out i wr2 => ∃ (k : Nat), k ≤ l.length ∧ i = .int .i64 k ∧ Hid (wr2.ownsRow w.heap.size 81 6 out (pruneTo l f k).length (flatG verC (pruneTo l f k))) ∧ Hid (Below w.heap.size w wr2)) (fun _ i _ => l.length - (intOf i).toNat)
      case atStart => exact ⟨0, Nat.zero_le _, rfl, by rw [pruneTo_zero]; exact ownG_nil _ _ _, Below.refl _ _⟩
      case round =>
        obtain ⟨k, hk, rfl, HO, HD⟩ := hrel
        by_cases hlt : k < l.length
        · obtain ⟨b, o, rfl, hb, hL⟩ := HL.out (Go.Proofs.Ythiofbohllmfbaa.ne_of_lt hlt)
          obtain ⟨e1, e2, e3, e4, e5, e6⟩ := v_at (hL.on hb HD.out) k hlt
          have i1 : (k : Int) < (l.length : Int) := by omega
          have i2 : (0 : Int) ≤ (k : Int) := by omega
          have hz := (HD.out).size
          have HR := Lib.hid (pruneTo_next hlt f)
          rw [hJ] at HR
          have hpl := pruneTo_len l f k
          generalize l[k] = x at *
          generalize pruneTo l f k = S at *
          obtain ⟨x0, x1, x2, x3, x4, x5⟩ := x
          simp only at e1 e2 e3 e4 e5 e6 HR
          clear hL HL
          by_cases hs : f < x0
          · have q1 : decide (f < x0) = true := decide_eq_true hs
            rw [if_pos (Or.inl hs)] at HR
            clear hs
            go_wp2_with (first | (at_builtin; refine wpList_append_own _ rfl _ _ 57 rfl w.heap.size 81 j0 (.agg #[.int .i64 0, .int .i64 0, .int .i64 0, .bool false, .int .i64 0, .int .i64 0]) 6 48 Try.underlying57 HI.out.1 HI.out.2.1 HI.out.2.2.1 HI.out.2.2.2 rfl (by decide) _ _ _ rfl (HO.out.alloc _) ⟨wr.heap.size, 0, none⟩ 1 1 (verC ⟨x0, ⟨x1, x2, x3, x4, x5⟩⟩) rfl rfl (new1V wr ⟨x0, ⟨x1, x2, x3, x4, x5⟩⟩) (verC_one _) (by unfold maxLen; omega) (by omega) (by simp; omega) ?_; intro v' w3 hown hgrow hnil))
            have HO3 := Lib.hid (ownG_next hown)
            have hb3 := Lib.hid (ownG_below HD.out hz HO.out hgrow)
            clear hown hgrow
            exact ⟨⟨k + 1, by omega, by go_num, by rw [HR.out]; exact HO3, hb3⟩, by simp [intOf]; omega⟩
          · have q1 : decide (f < x0) = false := decide_eq_false hs
            by_cases hj : (k : Int) = J
            · have q2 : ((k : Int) == J) = true := by simp [hj]
              rw [if_pos (Or.inr hj)] at HR
              clear hs hJ
              have HJ := Lib.hid hj
              clear hj
              go_wp2_with (first | (at_builtin; refine wpList_append_own _ rfl _ _ 57 rfl w.heap.size 81 j0 (.agg #[.int .i64 0, .int .i64 0, .int .i64 0, .bool false, .int .i64 0, .int .i64 0]) 6 48 Try.underlying57 HI.out.1 HI.out.2.1 HI.out.2.2.1 HI.out.2.2.2 rfl (by decide) _ _ _ rfl (HO.out.alloc _) ⟨wr.heap.size, 0, none⟩ 1 1 (verC ⟨x0, ⟨x1, x2, x3, x4, x5⟩⟩) rfl rfl (new1V wr ⟨x0, ⟨x1, x2, x3, x4, x5⟩⟩) (verC_one _) (by unfold maxLen; omega) (by omega) (by simp; omega) ?_; intro v' w3 hown hgrow hnil))
              have HO3 := Lib.hid (ownG_next hown)
              have hb3 := Lib.hid (ownG_below HD.out hz HO.out hgrow)
              clear hown hgrow
              exact ⟨⟨k + 1, by omega, by go_num, by rw [HR.out]; exact HO3, hb3⟩, by simp [intOf]; omega⟩
            · have q2 : ((k : Int) == J) = false := by simp [hj]
              rw [if_neg (by rintro (h | h); exact hs h; exact hj h)] at HR
              clear hs
              go_wp2_with fail
              exact ⟨⟨k + 1, by omega, by go_num, by rw [HR.out]; exact HO, HD⟩, by simp [intOf]; omega⟩
        · have i1 : ¬ (k : Int) < (l.length : Int) := by omega
          have hka : k = l.length := by omega
          subst hka
          have HRR := Lib.hid (show VOwn w.heap.size wr _ (prune l f) from HO.out)
          go_wp2_with fail
          go_ret
          exact ⟨⟨_, rfl, HRR.out⟩, HD.out⟩

end Go.Proofs.Ythiofbohllmfbaa.Ch
