/- The program's own: the same ones, some more put behind: walks. -/
import Derived.Test.YthiofbohllmfbaaXA
import Derived.Test.YthiofbohllmfbaaCF
import Derived.Lib.AppendZerosOnto
import Derived.Lib.SliceRun
import Derived.LoopN
namespace Go.Proofs.Ythiofbohllmfbaa.Ch
open Go Go.RowKit Go.Sort Go.Lib Cl Ce

set_option maxRecDepth 100000 in
set_option maxHeartbeats 2000000 in
theorem equal_any (v1 v2 : Value) (l m : List Ver) (w : World) (h1 : VRow w v1 l) (h2 : VRow w v2 m) (hn : l.length ≤ 1000000) :
    Calls Try.prog 63 #[v1, v2] w fun e w' => e = .returned (.bool (sameV l m)) ∧ Below w.heap.size w w' := by
  obtain ⟨a1, c1, rfl, _, hl1⟩ := h1
  obtain ⟨a2, c2, rfl, _, hl2⟩ := h2
  by_cases hlen : l.length = m.length
  · have HL1 := Lib.hid hl1
    have HL2 := Lib.hid hl2
    obtain ⟨F, HF⟩ : ∃ F, Hid (sameV l m = F) := ⟨_, rfl⟩
    rw [HF.out]
    have HLEN := Lib.hid hlen
    rw [← hlen]
    clear hl1 hl2 hlen
    go_enter Try.func63, Try.ntmps63
    go_wp2
    go_loopw [13] (fun i wr => ∃ k nq : Nat, k ≤ l.length ∧ i = .int .i64 k ∧ wr = w.drewN nq ∧ Hid (∀ j (h1 : j < l.length) (h2 : j < m.length), j < k → eqV l[j] m[j] = true)) (fun i _ => l.length - (intOf i).toNat)
    case atStart => exact ⟨0, 0, Nat.zero_le _, rfl, rfl, fun j _ _ hj => absurd hj (Nat.not_lt_zero j)⟩
    case round =>
      obtain ⟨k, nq, hk, rfl, rfl, HT⟩ := hrel
      by_cases hlt : k < l.length
      · have hlt2 : k < m.length := by have := HLEN.out; omega
        obtain ⟨b1, o1, rfl, hb1, L1⟩ := HL1.out (ne_of_lt hlt)
        obtain ⟨b2, o2, rfl, hb2, L2⟩ := HL2.out (ne_of_lt hlt2)
        obtain ⟨e1, e2, e3, e4, e5, e6⟩ := v_at L1 k hlt
        obtain ⟨f1, f2, f3, f4, f5, f6⟩ := v_at L2 k hlt2
        have i1 : (k : Int) < (l.length : Int) := by omega
        have i2 : (0 : Int) ≤ (k : Int) := by omega
        have HN : Hid (eqV l[k] m[k] = false → F = false) := fun h => (HF.out).symm.trans (same_notV hlt hlt2 h)
        have HY : Hid (eqV l[k] m[k] = true → ∀ j (h1 : j < l.length) (h2 : j < m.length), j < k + 1 → eqV l[j] m[j] = true) := fun h j g1 g2 g3 => by
          by_cases hj : j < k
          · exact HT.out j g1 g2 hj
          · have : j = k := by omega
            subst this; exact h
        have HE := Lib.hid (eq_partsV l[k] m[k] _ _ _ _ _ _ rfl rfl rfl rfl rfl rfl)
        generalize l[k] = x at *
        generalize m[k] = y at *
        obtain ⟨x1, ⟨x2, x3, x4, x5, x6⟩⟩ := x
        obtain ⟨y1, ⟨y2, y3, y4, y5, y6⟩⟩ := y
        simp only at e1 f1 e2 f2 e3 f3 e4 f4 e5 f5 e6 f6 HE
        clear L1 L2 hb1 hb2 HL1 HL2 HT
        cases p1 : (x1 == y1)
        · have HV := Lib.hid (HN.out ((HE.out).trans (by simp only [p1, Bool.false_and])))
          clear HE HN HY
          go_wp2_with fail
          go_quiet (fail)
          go_wp2_with fail
          go_ret
          exact ⟨by first | (rw [HV.out]; done) | (rw [HV.out]; rfl), ⟨rfl, rfl, rfl, Nat.le_refl _, fun _ _ => rfl⟩⟩
        · cases p2 : (x2 == y2)
          · have HV := Lib.hid (HN.out ((HE.out).trans (by simp only [p1, p2, Bool.and_false, Bool.false_and])))
            clear HE HN HY
            go_wp2_with fail
            go_quiet (fail)
            go_wp2_with fail
            go_ret
            exact ⟨by first | (rw [HV.out]; done) | (rw [HV.out]; rfl), ⟨rfl, rfl, rfl, Nat.le_refl _, fun _ _ => rfl⟩⟩
          · cases p3 : (x3 == y3)
            · have HV := Lib.hid (HN.out ((HE.out).trans (by simp only [p1, p2, p3, Bool.and_false, Bool.false_and])))
              clear HE HN HY
              go_wp2_with fail
              go_quiet (fail)
              go_wp2_with fail
              go_ret
              exact ⟨by first | (rw [HV.out]; done) | (rw [HV.out]; rfl), ⟨rfl, rfl, rfl, Nat.le_refl _, fun _ _ => rfl⟩⟩
            · cases p4 : (x4 == y4)
              · have HV := Lib.hid (HN.out ((HE.out).trans (by simp only [p1, p2, p3, p4, Bool.and_false, Bool.false_and])))
                clear HE HN HY
                go_wp2_with fail
                go_quiet (fail)
                go_wp2_with fail
                go_ret
                exact ⟨by first | (rw [HV.out]; done) | (rw [HV.out]; rfl), ⟨rfl, rfl, rfl, Nat.le_refl _, fun _ _ => rfl⟩⟩
              · cases p5 : (x5 == y5)
                · have HV := Lib.hid (HN.out ((HE.out).trans (by simp only [p1, p2, p3, p4, p5, Bool.and_false, Bool.false_and])))
                  clear HE HN HY
                  go_wp2_with fail
                  go_quiet (fail)
                  go_wp2_with fail
                  go_ret
                  exact ⟨by first | (rw [HV.out]; done) | (rw [HV.out]; rfl), ⟨rfl, rfl, rfl, Nat.le_refl _, fun _ _ => rfl⟩⟩
                · cases p6 : (x6 == y6)
                  · have HV := Lib.hid (HN.out ((HE.out).trans (by simp only [p1, p2, p3, p4, p5, p6, Bool.and_false])))
                    clear HE HN HY
                    go_wp2_with fail
                    go_quiet (fail)
                    go_wp2_with fail
                    go_ret
                    exact ⟨by first | (rw [HV.out]; done) | (rw [HV.out]; rfl), ⟨rfl, rfl, rfl, Nat.le_refl _, fun _ _ => rfl⟩⟩
                  · have HV := Lib.hid (HY.out ((HE.out).trans (by simp only [p1, p2, p3, p4, p5, p6]; rfl)))
                    clear HE HN HY
                    go_wp2_with fail
                    go_quiet (fail)
                    go_wp2_with fail
                    exact ⟨⟨k + 1, _, by omega, by go_num, rfl, HV⟩, by simp [intOf]; omega⟩
      · have HM := Lib.hid ((HF.out).symm.trans (same_allV HLEN.out (fun j g1 g2 => HT.out j g1 g2 (by omega))))
        go_wp2_with fail
        go_ret
        exact ⟨by first | (rw [HM.out]; done) | (rw [HM.out]; rfl), ⟨rfl, rfl, rfl, Nat.le_refl _, fun _ _ => rfl⟩⟩
  · rw [same_lenV hlen]
    have hlz : ¬ (l.length : Int) = (m.length : Int) := by omega
    clear hl1 hl2
    go_enter Try.func63, Try.ntmps63
    go_wp2
    go_ret
    exact ⟨rfl, Below.refl _ _⟩



set_option maxRecDepth 100000 in
set_option maxHeartbeats 1000000 in
theorem same_any (v1 v2 : Value) (l m : List Ver) (w : World) (h1 : VRow w v1 l) (h2 : VRow w v2 m) (hn : l.length ≤ 1000000) :
    Calls Try.prog 44 #[v1, v2] w fun e w' => e = .returned (.bool (sameV l m)) ∧ Below w.heap.size w w' := by
  have HK := Lib.hid (equal_any v1 v2 l m w h1 h2 hn)
  clear h1 h2
  generalize sameV l m = S at *
  go_enter Try.func44, Try.ntmps44
  go_wp2_with fail
  refine (HK.out).mono ?_
  rintro e w2 ⟨rfl, n2⟩
  go_wp2_with fail
  go_ret
  exact ⟨rfl, n2⟩

/-! ### room for some -/
set_option maxRecDepth 100000 in
set_option maxHeartbeats 1000000 in
theorem grow_none (w : World) : Calls Try.prog 72 #[.slice none 0 0, .int .i64 0] w fun e w' => e = .returned (.slice none 0 0) ∧ w' = w := by
  go_enter Try.func72, Try.ntmps72
  go_wp2_with fail
  go_ret
  exact ⟨rfl, rfl⟩
set_option maxRecDepth 100000 in
set_option maxHeartbeats 2000000 in
theorem grow_some (n : Nat) (h0 : 0 < n) (hn : n ≤ 1000000) (w : World) : Calls Try.prog 72 #[.slice none 0 0, .int .i64 n] w fun e w' => (∃ v, e = .returned v ∧ w'.ownsRow w.heap.size 81 6 v 0 []) ∧ Below w.heap.size w w' := by
  obtain ⟨j0, hi, hz0, hz1, hz2⟩ := info40
  have hold : (Builtin.firstCells j0.size 0 (.slice none 0 0)).run Try.prog w.drew = .ok ([] : List Value).toArray w.drew := run_firstCells_none w.drew j0.size 0 0 0
  have hrz := fun ty => Lib.run_append_grow_zeros w 57 3 ty 81 j0 _ .i64 .i64 Try.underlying57 Try.underlying3 hi hz0 none 0 0 [] hold n h0 (by rw [hz1]; omega) (by omega) (by omega) (by rw [hz2]; omega) (growslice_fits (by omega) (by rw [hz2]; omega))
  rw [Nat.zero_add] at hrz
  have hG := grownCap_ge w n 0 81
  have hG2 := grownCap_le_maxLen w n 0 81 (by unfold maxLen; omega)
  have hG3 : Hid (n ≤ grownCap w n 0 81 ∧ grownCap w n 0 81 ≤ maxLen) := ⟨hG, hG2⟩
  have hsz : Hid ((([] : List Value).toArray ++ Builtin.zeroCells (Value.agg #[.int .i64 0, .int .i64 0, .int .i64 0, .bool false, .int .i64 0, .int .i64 0]).cells n ++ Builtin.zeroCells (Value.agg #[.int .i64 0, .int .i64 0, .int .i64 0, .bool false, .int .i64 0, .int .i64 0]).cells (grownCap w n 0 81 - n)).size = grownCap w n 0 81 * 6) := by
    show _ = _
    rw [Array.size_append, Array.size_append, size_zeroCells, size_zeroCells]
    show 0 + n * 6 + (grownCap w n 0 81 - n) * 6 = _
    omega
  generalize (([] : List Value).toArray ++ Builtin.zeroCells (Value.agg #[.int .i64 0, .int .i64 0, .int .i64 0, .bool false, .int .i64 0, .int .i64 0]).cells n ++ Builtin.zeroCells (Value.agg #[.int .i64 0, .int .i64 0, .int .i64 0, .bool false, .int .i64 0, .int .i64 0]).cells (grownCap w n 0 81 - n)) = AR at *
  generalize grownCap w n 0 81 = G at *
  have i1 : ¬ (n : Int) < 0 := by omega
  have i2 : (0 : Int) < (n : Int) := by omega
  have HM := Lib.hid (World.ownsRow_made (base := w.heap.size) (e := 81) (size := 6) w.drew AR G (Nat.le_refl _) hG2 hsz.out)
  clear hold hG hG2 hi hz0 hz1 hz2
  have HR := Lib.hid hrz
  clear hrz
  go_enter Try.func72, Try.ntmps72
  go_wp2_with (at_builtin; refine Lib.wpList_append_run _ rfl _ _ _ _ rfl _ _ rfl rfl _ _ (HR.out _) ?_)
  go_ret
  exact ⟨⟨_, rfl, HM.out⟩, (aBelow w.drew (.cells AR 81)).trans (Below.refl _ _) |> fun h => ⟨h.os, h.tape, h.output, h.size, h.block⟩⟩
theorem grow_any (n : Nat) (hn : n ≤ 1000000) (w : World) : Calls Try.prog 72 #[.slice none 0 0, .int .i64 n] w fun e w' => (∃ v, e = .returned v ∧ w'.ownsRow w.heap.size 81 6 v 0 []) ∧ Below w.heap.size w w' := by
  by_cases h0 : 0 < n
  · exact grow_some n h0 hn w
  · obtain rfl : n = 0 := by omega
    refine (grow_none w).mono ?_
    rintro e w' ⟨rfl, rfl⟩
    exact ⟨⟨_, rfl, World.ownsRow_nil _ _ _ _⟩, Below.refl _ _⟩

/-! ### two lists put together -/
set_option maxRecDepth 100000 in
set_option maxHeartbeats 4000000 in
theorem concat_two (v1 v2 : Value) (l m : List Ver) (b c : Nat) (w : World) (h1 : VRow w v1 l) (h2 : VRow w v2 m) (g1 : w.cell? ⟨b, 0, none⟩ = some v1) (g2 : w.cell? ⟨b, 1, none⟩ = some v2) (hn1 : l.length ≤ 1000) (hn2 : m.length ≤ 1000) :
    Calls Try.prog 65 #[.slice (some ⟨b, 0, none⟩) 2 c] w fun e w' => (∃ v', e = .returned v' ∧ VOwn w.heap.size w' v' (l ++ m)) ∧ Below w.heap.size w w' := by
  obtain ⟨j0, hi, hz0, hz1, hz2⟩ := info40
  have HI := Lib.hid (And.intro hi (And.intro hz0 (And.intro hz1 hz2)))
  clear hi hz0 hz1 hz2
  obtain ⟨a1, c1, rfl, k1, hl1⟩ := h1
  obtain ⟨a2, c2, rfl, k2, hl2⟩ := h2
  have hb : b < w.heap.size := World.block_lt_of_cell? _ _ g1
  have HN1 := Lib.hid (fun W (d : Below w.heap.size w W) => gat_news verC_len (by decide) (hl1.on d))
  have HN2 := Lib.hid (fun W (d : Below w.heap.size w W) => gat_news verC_len (by decide) (hl2.on d))
  have HG := Lib.hid (grow_any (l.length + m.length) (by omega) w)
  have HA1 := Lib.hid (gat_none hl1)
  have HA2 := Lib.hid (gat_none hl2)
  rw [Int.natCast_add] at HG
  clear hl1 hl2
  have i1 : ¬ (l.length : Int) < 0 := by omega
  have i2 : ¬ (l.length : Int) + (m.length : Int) < 0 := by omega
  have i3 : IntKind.i64.wrap ((l.length : Int) + (m.length : Int)) = (l.length : Int) + (m.length : Int) := by rw [IntKind.wrap_i64]; omega
  have i4 : IntKind.i64.wrap (l.length : Int) = (l.length : Int) := by rw [IntKind.wrap_i64]; omega
  go_enter Try.func65, Try.ntmps65
  go_wp2_with fail
  refine wp_loop_rounds 3 ?_
  rw [rounds_succ]
  go_wp2_with fail
  rw [rounds_succ]
  go_wp2_with fail
  rw [rounds_succ]
  go_wp2_with fail
  refine (HG.out).mono ?_
  rintro e w2 ⟨⟨V, rfl, own0⟩, d2⟩
  have G1 := keepC d2 g1 hb
  have G2 := keepC d2 g2 hb
  have HO := Lib.hid own0
  clear g1 HG own0
  go_wp2_with fail
  refine wp_loop_rounds 3 ?_
  rw [rounds_succ]
  go_wp2_with (first | (at_builtin; refine wpList_append_any rfl _ _ 57 rfl w.heap.size 81 j0 (.agg #[.int .i64 0, .int .i64 0, .int .i64 0, .bool false, .int .i64 0, .int .i64 0]) 6 48 Try.underlying57 HI.out.1 HI.out.2.1 HI.out.2.2.1 HI.out.2.2.2 rfl (by decide) _ _ _ rfl HO.out a1 l.length c1 (flatG verC l) rfl (flatG_len verC_len l) HA1.out (HN1.out _ d2) (flatG_cells1 verC_one l) (by unfold maxLen; omega) (by omega) d2.size ?_; intro v4 w4 hown4 hgrow4 hnil4))
  have H4 := Lib.hid (show w4.ownsRow w.heap.size 81 6 v4 l.length (flatG verC l) from (by simpa using hown4))
  have d4 : Below w.heap.size w w4 := d2.grown hgrow4 d2.size (fun k hk => (HO.out.lt k hk).1)
  have G4 : w4.cell? ⟨b, 1, none⟩ = some (.slice a2 m.length c2) := keepC d4 g2 hb
  clear hown4 hgrow4 hnil4 HO G1 G2 HN1 HA1
  rw [rounds_succ]
  go_wp2_with (first | (at_builtin; refine wpList_append_any rfl _ _ 57 rfl w.heap.size 81 j0 (.agg #[.int .i64 0, .int .i64 0, .int .i64 0, .bool false, .int .i64 0, .int .i64 0]) 6 48 Try.underlying57 HI.out.1 HI.out.2.1 HI.out.2.2.1 HI.out.2.2.2 rfl (by decide) _ _ _ rfl H4.out a2 m.length c2 (flatG verC m) rfl (flatG_len verC_len m) HA2.out (HN2.out _ d4) (flatG_cells1 verC_one m) (by unfold maxLen; omega) (by omega) d4.size ?_; intro v5 w5 hown5 hgrow5 hnil5))
  have H5 := Lib.hid (show w5.ownsRow w.heap.size 81 6 v5 (l ++ m).length (flatG verC (l ++ m)) from (by rw [flat_two, List.length_append]; exact hown5))
  have d5 : Below w.heap.size w w5 := d4.grown hgrow5 d4.size (fun k hk => (H4.out.lt k hk).1)
  clear hown5 hgrow5 hnil5 H4 G4 HN2 HA2
  rw [rounds_succ]
  go_wp2_with fail
  go_ret
  exact ⟨⟨_, rfl, H5.out⟩, d5⟩

/-! ### some more put behind; a sample folded -/
set_option maxRecDepth 100000 in
set_option maxHeartbeats 2000000 in
theorem put_any (v1 v2 : Value) (l m : List Ver) (w : World) (h1 : VRow w v1 l) (h2 : VRow w v2 m) (hn1 : l.length ≤ 1000) (hn2 : m.length ≤ 1000) :
    Calls Try.prog 52 #[v1, v2] w fun e w' => (∃ v', e = .returned (.tuple #[v', .int .i64 (putV l m).2]) ∧ VOwn w.heap.size w' v' (putV l m).1) ∧ Below w.heap.size w w' := by
  have d1 := aBelow w (.cells #[v1, v2] 57)
  have HC := Lib.hid (concat_two v1 v2 l m w.heap.size 2 (w.alloc (.cells #[v1, v2] 57)) (h1.on d1) (h2.on d1) (by simp) (by simp) hn1 hn2)
  obtain ⟨a1, c1, rfl, -, -⟩ := h1
  obtain ⟨a2, c2, rfl, -, -⟩ := h2
  go_enter Try.func52, Try.ntmps52
  go_wp2_with fail
  refine (HC.out).mono ?_
  rintro e w5 ⟨⟨v5, rfl, hro⟩, n5⟩
  have hr := hro.row
  have d5 := d1.trans (n5.mono d1.size)
  have HK := Lib.hid (right_any _ (l ++ m) w5 hr (by rw [List.length_append]; omega))
  have HRR := Lib.hid (hro.base d1.size)
  clear hro
  obtain ⟨p5, q5, rfl, -, -⟩ := hr
  clear HC n5 d1
  generalize (l ++ m).length = N at *
  cases hv : vright (l ++ m)
  · have HM := Lib.hid (putV_no hv)
    rw [hv] at HK
    clear hv
    go_wp2_with fail
    refine (HK.out).mono ?_
    rintro e w6 ⟨rfl, n6⟩
    go_wp2_with fail
    go_ret2
    refine ⟨⟨.slice none 0 0, ?_, ?_⟩, d5.trans (n6.mono d5.size)⟩
    · rw [HM.out]; rfl
    · rw [HM.out]; exact VOwn.nil _ _
  · have HM := Lib.hid (putV_ok hv)
    rw [hv] at HK
    clear hv
    go_wp2_with fail
    refine (HK.out).mono ?_
    rintro e w6 ⟨rfl, n6⟩
    go_wp2_with fail
    go_ret2
    refine ⟨⟨.slice p5 N q5, ?_, ?_⟩, d5.trans (n6.mono d5.size)⟩
    · rw [HM.out]; rfl
    · rw [HM.out]; exact HRR.out.on n6
set_option maxRecDepth 100000 in
set_option maxHeartbeats 2000000 in
theorem foldV_any (v : Value) (l : List Ver) (s x : Int) (w : World) (h : VRow w v l) (hn : l.length ≤ 999) (ho : ∀ y ∈ l, okV y) (hx : ok64 x) :
    Calls Try.prog 28 #[v, .int .i64 s, .int .i64 x] w fun e w' => (∃ v', e = .returned (.tuple #[v', .int .i64 (foldV l s x).2]) ∧ VOwn w.heap.size w' v' (foldV l s x).1) ∧ Below w.heap.size w w' := by
  have HP := fun W (d : Below w.heap.size w W) u (k : VRow W u [⟨s, fold (lastC l) x⟩]) => put_any v u l [⟨s, fold (lastC l) x⟩] W (h.on d) k (by omega) (by simp)
  have hok : okC (lastC l) := by
    by_cases h0 : l = []
    · subst h0; exact ok_zero
    · have hpos : 0 < l.length := List.length_pos_iff.2 h0
      rw [lastC_at hpos]; exact (ho _ (List.getElem_mem _)).2
  have HF := fun W => fold_any (lastC l) x W hok hx
  have HL := Lib.hid (latest_any v l w h (by omega))
  show Calls Try.prog 28 #[v, .int .i64 s, .int .i64 x] w fun e w' => (∃ v', e = .returned (.tuple #[v', .int .i64 (putV l [⟨s, fold (lastC l) x⟩]).2]) ∧ VOwn w.heap.size w' v' (putV l [⟨s, fold (lastC l) x⟩]).1) ∧ Below w.heap.size w w'
  generalize putV l [⟨s, fold (lastC l) x⟩] = PV at *
  rw [← lastV_c] at HF HP
  clear hok ho h
  generalize lastV l = y at *
  obtain ⟨y0, y1, y2, y3, y4, y5⟩ := y
  simp only at HF HP
  have HP := Lib.hid HP
  have HF := Lib.hid HF
  generalize fold ⟨y1, y2, y3, y4, y5⟩ x = D at *
  have hf := field_c y0 y1 y2 y3 y4 y5
  go_enter Try.func28, Try.ntmps28
  go_wp2_with fail
  refine (HL.out).mono ?_
  rintro e w1 ⟨rfl, d1⟩
  go_wp2_with fail
  refine (HF.out _).mono ?_
  rintro e w2 ⟨rfl, n2⟩
  have d2 := d1.trans (n2.mono d1.size)
  clear n2 HF HL
  go_wp2_with fail
  have d3 := d2.alloc d2.size (.cells #[.int .i64 s, .int .i64 D.cnt, .int .i64 D.sn, .bool D.so, .int .i64 D.mn, .int .i64 D.mx] 81)
  refine (HP.out _ d3 _ (one_ver w2 ⟨s, D⟩)).mono ?_
  rintro e w4 ⟨⟨_, rfl, r4⟩, n4⟩
  have R4 := Lib.hid (r4.base d3.size)
  obtain ⟨p4, q4, rfl, -, -⟩ := r4.row
  clear r4
  have d4 := d3.trans (n4.mono d3.size)
  clear n4 d2 d3 HP
  go_wp2_with fail
  go_ret2
  exact ⟨⟨_, rfl, R4.out⟩, d4⟩
end Go.Proofs.Ythiofbohllmfbaa.Ch
