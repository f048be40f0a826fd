/- The program's own Right, Find, Drop, Floor, Same: walks, and the library's functions that they call. -/
import Derived.Test.YtigkpfdbbifcgaaOA15
namespace Go.Proofs.Ytigkpfdbbifcgaa.Pj
open Go Go.RowKit Go.Sort Go.Lib

theorem cell_kept1 {w : World} {a : Addr} {u : Value} (h : w.cell? a = some u) (o : Obj) : (w.alloc o).cell? a = some u := by
  have hlt := World.block_lt_of_cell? _ _ h
  rw [(aBelow w o).cell hlt, h]

set_option maxRecDepth 100000 in
set_option maxHeartbeats 4000000 in
theorem right_own (v : Value) (l : List Pn) (w : World) (h : PRow w v l) (hn : l.length ≤ 1000000) :
    Calls Try.prog 15 #[v] w fun e w' => e = .returned (.bool (rightP l)) ∧ Below w.heap.size w w' := by
  obtain ⟨a, c, rfl, hc, hl⟩ := h
  have HL := Lib.hid hl
  obtain ⟨A, HA⟩ : ∃ A, Hid (rightP l = A) := ⟨_, rfl⟩
  rw [HA.out]
  clear hl
  go_enter Try.func15, Try.ntmps15
  go_wp2_with fail
  go_loopw [7] (fun i wr => ∃ k : Nat, k ≤ l.length ∧ i = .int .i64 k ∧ Hid (Below w.heap.size w wr) ∧ Hid (A = rightFrom (before l k) (l.drop k))) (fun i _ => l.length - (intOf i).toNat)
  case atStart => exact ⟨0, Nat.zero_le _, rfl, Below.refl _ _, by rw [before_zero]; exact (HA.out).symm⟩
  case round =>
    obtain ⟨k, hk, rfl, HD, HT⟩ := hrel
    by_cases hlt : k < l.length
    · obtain ⟨b, o, rfl, hb, hL⟩ := HL.out (ne_of_lt hlt)
      have hLr := hL.on hb HD.out
      obtain ⟨e0, e1⟩ := p_at hLr k hlt
      have HT1 := HT.out
      rw [drop_cons hlt] at HT1
      have HN := before_next hlt
      have i1 : (k : Int) < (l.length : Int) := by omega
      have i2 : (0 : Int) ≤ (k : Int) := by omega
      have hz := HD.out.size
      by_cases hk0 : 0 < k
      · obtain ⟨p0, -⟩ := p_at (hLr.on (World.block_lt_of_cell? _ _ e0) (aBelow wr (.cells #[.int .i64 (l[k]).id, .int .i64 (l[k]).st] 35))) (k - 1) (by omega)
        have HB := before_at hk0 hk
        have i3 : (0 : Int) < (k : Int) := by omega
        have i4 : ((k - 1 : Nat) : Int) = (k : Int) - 1 := by omega
        obtain ⟨y, hy⟩ : ∃ y, (l[k - 1]'(by omega)).id = y := ⟨_, rfl⟩
        rw [hy] at p0 HB
        rw [HB] at HT1
        generalize l[k] = x at *
        obtain ⟨xi, xs⟩ := x
        simp only at e0 e1 HT1 HN p0
        rw [rightFrom] at HT1
        clear hy HB HT hL hLr
        by_cases c1 : xs < 0
        · have hA : Hid (A = false) := Lib.hid (by rw [HT1]; simp; omega)
          clear HT1 HN
          have g1 : decide (xs < 0) = true := decide_eq_true c1
          go_wp2_with fail
          go_quiet (fail)
          go_wp2_with fail
          go_ret
          exact ⟨by first | (rw [hA.out]; done) | (rw [hA.out]; rfl), by first | exact below_drewN (below_drewN (HD.out.alloc hz _) _) _ | exact below_drewN (HD.out.alloc hz _) _ | exact HD.out.alloc hz _⟩
        · have g1 : decide (xs < 0) = false := decide_eq_false c1
          by_cases c2 : y < xi
          · have HZ := Lib.hid (show A = rightFrom (before l (k + 1)) (l.drop (k + 1)) by rw [HN, HT1, decide_eq_true (show 0 ≤ xs by omega), decide_eq_true c2]; simp)
            clear HT1 HN
            have g2 : decide (xi ≤ y) = false := by simp; omega
            go_wp2_with fail
            go_quiet (fail)
            go_wp2_with fail
            exact ⟨⟨k + 1, by omega, by go_num, (by first | exact below_drewN (below_drewN (HD.out.alloc hz _) _) _ | exact below_drewN (HD.out.alloc hz _) _ | exact HD.out.alloc hz _), HZ⟩, by simp [intOf]; omega⟩
          · have hA : Hid (A = false) := Lib.hid (by rw [HT1]; simp [c2])
            clear HT1 HN
            have g2 : decide (xi ≤ y) = true := by simp; omega
            go_wp2_with fail
            go_quiet (fail)
            go_wp2_with fail
            go_ret
            exact ⟨by first | (rw [hA.out]; done) | (rw [hA.out]; rfl), by first | exact below_drewN (below_drewN (HD.out.alloc hz _) _) _ | exact below_drewN (HD.out.alloc hz _) _ | exact HD.out.alloc hz _⟩
      · have hk1 : k = 0 := by omega
        subst hk1
        rw [before_zero] at HT1
        generalize l[0] = x at *
        obtain ⟨xi, xs⟩ := x
        simp only [Nat.zero_mul, Nat.add_zero] at e0 e1 HT1 HN
        rw [rightFrom] at HT1
        clear HT hL hLr
        by_cases c1 : xs < 0
        · have hA : Hid (A = false) := Lib.hid (by rw [HT1]; simp; omega)
          clear HT1 HN
          have g1 : decide (xs < 0) = true := decide_eq_true c1
          go_wp2_with fail
          go_quiet (fail)
          go_wp2_with fail
          go_ret
          exact ⟨by first | (rw [hA.out]; done) | (rw [hA.out]; rfl), by first | exact below_drewN (below_drewN (HD.out.alloc hz _) _) _ | exact below_drewN (HD.out.alloc hz _) _ | exact HD.out.alloc hz _⟩
        · have HZ := Lib.hid (show A = rightFrom (before l (0 + 1)) (l.drop (0 + 1)) by rw [HN, HT1, decide_eq_true (show 0 ≤ xs by omega)]; simp)
          clear HT1 HN
          have g1 : decide (xs < 0) = false := decide_eq_false c1
          go_wp2_with fail
          go_quiet (fail)
          go_wp2_with fail
          exact ⟨⟨0 + 1, by omega, by go_num, (by first | exact below_drewN (below_drewN (HD.out.alloc hz _) _) _ | exact below_drewN (HD.out.alloc hz _) _ | exact HD.out.alloc hz _), HZ⟩, by simp [intOf]; omega⟩
    · have hA : Hid (A = true) := Lib.hid (by
        have := HT.out
        rw [List.drop_of_length_le (by omega)] at this
        rw [this]; cases before l k <;> rfl)
      have i1 : ¬ (k : Int) < (l.length : Int) := by omega
      go_wp2_with fail
      go_ret
      exact ⟨by first | (rw [hA.out]; done) | (rw [hA.out]; rfl), HD.out⟩

/-! ### where the first one of an Id stands -/
set_option maxRecDepth 100000 in
set_option maxHeartbeats 2000000 in
theorem isP_any (B0 : Nat) (id : Int) (x0 x1 : Int) (w : World) (h0 : w.cell? ⟨B0, 0, none⟩ = some (.int .i64 id)) :
    Calls Try.prog 31 #[.agg #[.int .i64 x0, .int .i64 x1], .pointer (some ⟨B0, 0, none⟩)] w fun e w' => e = .returned (.bool (decide (x0 = id))) ∧ Below w.heap.size w w' := by
  have d0 := Lib.hid (aBelow w (.cells #[.int .i64 x0, .int .i64 x1] 35))
  have R0 := cell_kept1 h0 (.cells #[.int .i64 x0, .int .i64 x1] 35)
  clear h0
  by_cases c1 : x0 = id
  · have q1 : (x0 == id) = true := by simp [c1]
    rw [show decide (x0 = id) = true from decide_eq_true c1]
    subst c1
    go_enter Try.func31, Try.ntmps31
    go_wp2_with fail
    go_ret
    exact ⟨by first | rfl | simp, d0.out⟩
  · have q1 : (x0 == id) = false := by simp [c1]
    rw [show decide (x0 = id) = false from decide_eq_false c1]
    go_enter Try.func31, Try.ntmps31
    go_wp2_with fail
    go_ret
    exact ⟨by first | rfl | simp [q1], d0.out⟩

/-- The place, or -1. -/
def placeP (l : List Pn) (id : Int) : Int := if idxF id l < l.length then (idxF id l : Int) else -1
set_option maxRecDepth 100000 in
set_option maxHeartbeats 2000000 in
theorem indexP_any (v : Value) (l : List Pn) (B0 : Nat) (id : Int) (w : World) (h : PRow w v l) (hn : l.length ≤ 1000000) (h0 : w.cell? ⟨B0, 0, none⟩ = some (.int .i64 id)) :
    Calls Try.prog 30 #[v, .func (.func 31) #[] #[.pointer (some ⟨B0, 0, none⟩)]] w fun e w' => e = .returned (.int .i64 (placeP l id)) ∧ Below w.heap.size w w' := by
  obtain ⟨a, c, rfl, hc, hl⟩ := h
  have HL := Lib.hid hl
  have H0 := Lib.hid h0
  obtain ⟨F, HF⟩ : ∃ F, Hid (placeP l id = F) := ⟨_, rfl⟩
  rw [HF.out]
  clear hl h0
  go_enter Try.func30, Try.ntmps30
  go_wp2_with fail
  go_loopw [8] (fun i wr => ∃ k : Nat, k ≤ l.length ∧ i = .int .i64 k ∧ Hid (Below w.heap.size w wr) ∧ Hid (NoneUp id l k)) (fun i _ => l.length - (intOf i).toNat)
  case atStart => exact ⟨0, Nat.zero_le _, rfl, Below.refl _ _, none_zero _ _⟩
  case round =>
    obtain ⟨k, hk, rfl, HD, HT⟩ := hrel
    by_cases hlt : k < l.length
    · obtain ⟨b, o, rfl, hb, hL⟩ := HL.out (ne_of_lt hlt)
      obtain ⟨e0, e1⟩ := p_at (hL.on hb HD.out) k hlt
      have i1 : (k : Int) < (l.length : Int) := by omega
      have i2 : (0 : Int) ≤ (k : Int) := by omega
      have HX := Lib.hid (fun h1 => none_next HT.out hlt h1)
      have HY : Hid ((l[k]).id = id → F = (k : Int)) := Lib.hid (fun h1 => by rw [← HF.out, placeP, none_here HT.out hlt h1, if_pos hlt])
      generalize l[k] = x at *
      obtain ⟨x0, x1⟩ := x
      simp only at e0 e1 HX HY
      have HC := Lib.hid (isP_any B0 id x0 x1 wr (keepC HD.out H0.out (World.block_lt_of_cell? _ _ H0.out)))
      clear hL HL HT
      by_cases T : x0 = id
      · have HM := Lib.hid (HY.out T)
        rw [decide_eq_true T] at HC
        clear HX HY T
        go_wp2_with (go_at_call 31; refine HC.out.mono ?_; rintro e w1 ⟨rfl, n1⟩)
        go_ret
        exact ⟨by first | (rw [HM.out]; done) | (rw [HM.out]; rfl), HD.out.trans (n1.mono HD.out.size)⟩
      · have HM := Lib.hid (HX.out T)
        rw [decide_eq_false T] at HC
        clear HX HY
        go_wp2_with (go_at_call 31; refine HC.out.mono ?_; rintro e w1 ⟨rfl, n1⟩)
        exact ⟨⟨k + 1, by omega, by go_num, HD.out.trans (n1.mono HD.out.size), HM⟩, by simp [intOf]; omega⟩
    · have HM : Hid (F = -1) := Lib.hid (by rw [← HF.out, placeP, none_all HT.out hlt, if_neg (Nat.lt_irrefl _)])
      have i1 : ¬ (k : Int) < (l.length : Int) := by omega
      go_wp2_with fail
      go_ret
      exact ⟨by first | (rw [HM.out]; done) | (rw [HM.out]; rfl), HD.out⟩

set_option maxRecDepth 100000 in
set_option maxHeartbeats 2000000 in
theorem place_any (v : Value) (l : List Pn) (id : Int) (w : World) (h : PRow w v l) (hn : l.length ≤ 1000000) :
    Calls Try.prog 24 #[v, .int .i64 id] w fun e w' => e = .returned (.int .i64 (placeP l id)) ∧ Below w.heap.size w w' := by
  have d0 := Lib.hid (aBelow w (.cells #[.int .i64 id] 3))
  have HC := Lib.hid (indexP_any v l w.heap.size id (w.alloc (.cells #[.int .i64 id] 3)) (h.on d0.out) hn (by simp))
  obtain ⟨a, c, rfl, -, -⟩ := h
  go_enter Try.func24, Try.ntmps24
  go_wp2_with (go_at_call 30; refine HC.out.mono ?_; rintro e w1 ⟨rfl, n1⟩)
  go_ret
  exact ⟨rfl, d0.out.trans (n1.mono d0.out.size)⟩

set_option maxRecDepth 100000 in
set_option maxHeartbeats 2000000 in
theorem find_own (v : Value) (l : List Pn) (id : Int) (w : World) (h : PRow w v l) (hn : l.length ≤ 1000000) :
    Calls Try.prog 13 #[v, .int .i64 id] w fun e w' => e = .returned (.tuple #[.int .i64 (findP l id).1, .bool (findP l id).2]) ∧ Below w.heap.size w w' := by
  have HC := Lib.hid (place_any v l id w h hn)
  have HR := Lib.hid h
  obtain ⟨a, c, rfl, hc, hl⟩ := h
  have HL := Lib.hid hl
  clear hl
  by_cases hi : idxF id l < l.length
  · have hP : placeP l id = (idxF id l : Int) := if_pos hi
    have hF : findP l id = ((l[idxF id l]).st, true) := by unfold findP; rw [List.getElem?_eq_getElem hi]
    rw [hF]
    rw [hP] at HC
    generalize idxF id l = j at *
    have i1 : (j : Int) < (l.length : Int) := by omega
    have i2 : (0 : Int) ≤ (j : Int) := by omega
    have i3 : ¬ (j : Int) < 0 := by omega
    go_enter Try.func13, Try.ntmps13
    go_wp2_with fail
    refine HC.out.mono ?_
    rintro e w1 ⟨rfl, n1⟩
    obtain ⟨b, o, rfl, hb, hL⟩ := HL.out (ne_of_lt hi)
    obtain ⟨e0, e1⟩ := p_at (hL.on hb n1) j hi
    clear hL HL
    go_wp2_with fail
    exact bodyPost_ret (v := .tuple #[.int .i64 (l[j]).st, .bool true]) (by simp [results, Try.results13, go_sem]) rfl ⟨rfl, n1⟩
  · have hP : placeP l id = -1 := if_neg hi
    have hF : findP l id = (0, false) := by unfold findP; rw [List.getElem?_eq_none (by omega)]
    rw [hF]
    rw [hP] at HC
    go_enter Try.func13, Try.ntmps13
    go_wp2_with (go_at_call 24; refine HC.out.mono ?_; rintro e w1 ⟨rfl, n1⟩)
    exact bodyPost_ret (v := .tuple #[.int .i64 0, .bool false]) (by simp [results, Try.results13, go_sem]) rfl ⟨rfl, n1⟩

set_option maxRecDepth 100000 in
set_option maxHeartbeats 2000000 in
theorem drop_own (v : Value) (l : List Pn) (id : Int) (w : World) (h : PRow w v l) (hn : l.length ≤ 1000) :
    Calls Try.prog 10 #[v, .int .i64 id] w fun e w' => (∃ v', e = .returned (.tuple #[v', .int .i64 (dropP l id).2]) ∧ PRow w' v' (dropP l id).1) ∧ Below w.heap.size w w' := by
  have HC := Lib.hid (place_any v l id w h (by omega))
  have HR := Lib.hid h
  obtain ⟨a, c, rfl, hc, hl⟩ := h
  by_cases hi : idxF id l < l.length
  · have hP : placeP l id = (idxF id l : Int) := if_pos hi
    have hF : dropP l id = (l.eraseIdx (idxF id l), 0) := by unfold dropP; rw [if_pos hi]
    rw [hF]
    rw [hP] at HC
    generalize idxF id l = j at *
    have i1 : (j : Int) < (l.length : Int) := by omega
    have i2 : (0 : Int) ≤ (j : Int) := by omega
    have i3 : ¬ (j : Int) < 0 := by omega
    have i4 : IntKind.i64.wrap ((j : Int) + 1) = ((j + 1 : Nat) : Int) := by rw [IntKind.wrap_i64]; omega
    have hcutH := cutP_head a c l.length j (by omega) hc
    have hcutT := cutP_tail a c l.length (j + 1) (by omega)
    rw [show ((j + 1 : Nat) : Int) = (j : Int) + 1 by omega] at hcutT
    have HH := Lib.hid (fun W (d : Below w.heap.size w W) => grow_head (HR.out.on d) j (by omega))
    have HT := Lib.hid (fun W (d : Below w.heap.size w W) => grow_tail (HR.out.on d) (j + 1))
    have HE := Lib.hid (show l.take j ++ l.drop (j + 1) = l.eraseIdx j from (List.eraseIdx_eq_take_drop_succ l j).symm)
    have hlH : (l.take j).length ≤ 1000 := by rw [List.length_take]; omega
    have hlT : (l.drop (j + 1)).length ≤ 1000 := by rw [List.length_drop]; omega
    generalize (if c = j + 1 then a else a.map (·.add ((j + 1) * 2))) = ad at *
    generalize l.eraseIdx j = R at *
    generalize l.length - (j + 1) = M at *
    generalize c - (j + 1) = c9 at *
    clear hl HR
    go_enter Try.func10, Try.ntmps10
    go_wp2_with fail
    refine HC.out.mono ?_
    rintro e w1 ⟨rfl, n1⟩
    have d1 := Lib.hid ((n1.alloc n1.size (.cells #[.slice a j c, .slice ad M c9] 22)).drew)
    have HCC := Lib.hid (concat_two _ _ (l.take j) (l.drop (j + 1)) w1.heap.size 2 ((w1.alloc (.cells #[.slice a j c, .slice ad M c9] 22)).drew) (HH.out _ d1.out) (HT.out _ d1.out) (by simp) (by simp) hlH hlT)
    clear HH HT
    go_wp2_with fail
    go_region_with (go_at_call 25; refine (HCC.out).mono ?_; rintro e w5 ⟨⟨v5, rfl, hr⟩, n5⟩)
    have d5 := Lib.hid (d1.out.trans (n5.mono d1.out.size))
    rw [HE.out] at hr
    go_wp2_with fail
    exact bodyPost_ret (v := .tuple #[v5, .int .i64 0]) (by simp [results, Try.results10, go_sem]) rfl ⟨⟨_, rfl, hr⟩, d5.out⟩
  · have hP : placeP l id = -1 := if_neg hi
    have hF : dropP l id = ([], 6) := by unfold dropP; rw [if_neg hi]
    rw [hF]
    rw [hP] at HC
    clear hl HR
    go_enter Try.func10, Try.ntmps10
    go_wp2_with (go_at_call 24; refine HC.out.mono ?_; rintro e w1 ⟨rfl, n1⟩)
    exact bodyPost_ret (v := .tuple #[.slice none 0 0, .int .i64 6]) (by simp [results, Try.results10, go_sem]) rfl ⟨⟨_, rfl, GRow.nil _⟩, n1⟩

/-! ### the floor -/
set_option maxRecDepth 100000 in
set_option maxHeartbeats 800000 in
theorem floor_own (s : Int) (v : Value) (l : List Pn) (w : World) (h : PRow w v l) (hn : l.length ≤ 1000000) :
    Calls Try.prog 18 #[.int .i64 s, v] w fun e w' => e = .returned (.int .i64 (floorP s l)) ∧ Below w.heap.size w w' := by
  obtain ⟨a, c, rfl, hc, hl⟩ := h
  have HL := Lib.hid hl
  clear hl
  go_enter Try.func18, Try.ntmps18
  go_wp2_with fail
  go_loopw [0, 9] (fun ss i wr => ∃ k : Nat, k ≤ l.length ∧ i = .int .i64 k ∧ ss = .int .i64 (floorP s (l.take k)) ∧ Hid (Below w.heap.size w wr)) (fun _ i _ => l.length - (intOf i).toNat)
  case atStart => exact ⟨0, Nat.zero_le _, rfl, rfl, Below.refl _ _⟩
  case round =>
    obtain ⟨k, hk, rfl, rfl, HD⟩ := hrel
    by_cases hlt : k < l.length
    · obtain ⟨b, o, rfl, hb, hL⟩ := HL.out (ne_of_lt hlt)
      obtain ⟨e0, e1⟩ := p_at (hL.on hb HD.out) k hlt
      have HK := Lib.hid (floorP_take (s := s) hlt)
      have i1 : (k : Int) < (l.length : Int) := by omega
      have i2 : (0 : Int) ≤ (k : Int) := by omega
      have hz := HD.out.size
      generalize floorP s (l.take k) = f at *
      generalize l[k] = x at *
      obtain ⟨xi, xs⟩ := x
      simp only at e0 e1 HK
      clear hL
      by_cases hq : xs < f
      · have HK2 : Hid (floorP s (l.take (k + 1)) = xs) := Lib.hid (by rw [HK.out, if_pos hq])
        have q1 : min f xs = xs := by omega
        have q2 : decide (xs < f) = true := decide_eq_true hq
        clear HK
        go_wp2_with fail
        exact ⟨⟨k + 1, by omega, by go_num, by rw [HK2.out], HD.out.alloc hz _⟩, by simp [intOf]; omega⟩
      · have HK2 : Hid (floorP s (l.take (k + 1)) = f) := Lib.hid (by rw [HK.out, if_neg hq])
        have q1 : min f xs = f := by omega
        have q2 : decide (xs < f) = false := decide_eq_false hq
        clear HK
        go_wp2_with fail
        exact ⟨⟨k + 1, by omega, by go_num, by rw [HK2.out], HD.out.alloc hz _⟩, by simp [intOf]; omega⟩
    · have i1 : ¬ (k : Int) < (l.length : Int) := by omega
      rw [List.take_of_length_le (by omega)]
      go_wp2_with fail
      go_ret
      exact ⟨rfl, HD.out⟩

/-! ### the same ones -/
set_option maxHeartbeats 4000000 in
theorem equal_cells (a1 a2 : Option Addr) (c1 c2 : Nat) (l m : List Pn) (w : World) (h1 : PAt w a1 l) (h2 : PAt w a2 m) (hn : l.length ≤ 1000000) :
    Calls Try.prog 26 #[.slice a1 l.length c1, .slice a2 m.length c2] w fun e w' => e = .returned (.bool (sameP l m)) ∧ Below w.heap.size w w' := by
  have H1 := Lib.hid h1
  have H2 := Lib.hid h2
  clear h1 h2
  by_cases hlm : l.length = m.length
  · obtain ⟨A, HA⟩ : ∃ A, Hid (sameP l m = A) := ⟨_, Lib.hid rfl⟩
    rw [HA.out]
    rw [← hlm]
    have HLM := Lib.hid hlm
    clear hlm
    go_enter Try.func26, Try.ntmps26
    go_wp2
    go_loopw [13] (fun i wr => ∃ k nq : Nat, k ≤ l.length ∧ i = .int .i64 k ∧ wr = w.drewN nq ∧ Hid (l.take k = m.take k)) (fun i _ => l.length - (intOf i).toNat)
    case atStart => exact ⟨0, 0, Nat.zero_le _, rfl, rfl, Lib.hid rfl⟩
    case round =>
      obtain ⟨k, nq, hk, rfl, rfl, HT⟩ := hrel
      by_cases hlt : k < l.length
      · have hlt2 : k < m.length := by have := HLM.out; omega
        obtain ⟨b1, o1, rfl, hb1, hL1⟩ := H1.out (ne_of_lt hlt)
        obtain ⟨b2, o2, rfl, hb2, hL2⟩ := H2.out (ne_of_lt hlt2)
        obtain ⟨d0, d1⟩ := p_at hL1 k hlt
        obtain ⟨e0, e1⟩ := p_at hL2 k hlt2
        have i1 : (k : Int) < (l.length : Int) := by omega
        have i2 : (0 : Int) ≤ (k : Int) := by omega
        have HN : Hid (eqP l[k] m[k] = true → l.take (k + 1) = m.take (k + 1)) := Lib.hid fun h => takeP_on hlt hlt2 HT.out h
        have HF : Hid (eqP l[k] m[k] = false → A = false) := Lib.hid fun h => (HA.out).symm.trans (takeP_off hlt hlt2 h)
        generalize l[k] = x at *
        generalize m[k] = y at *
        have Q0 : Hid ((x.id == y.id) = decide (x.id = y.id)) := Lib.hid (by by_cases h : x.id = y.id <;> simp [h])
        have Q1 : Hid ((x.st == y.st) = decide (x.st = y.st)) := Lib.hid (by by_cases h : x.st = y.st <;> simp [h])
        unfold eqP at HN HF
        generalize decide (x.id = y.id) = r0 at *
        generalize decide (x.st = y.st) = r1 at *
        clear hL1 hL2 hb1 hb2 H1 H2 HT hlt2
        have q0 := Q0.out
        have q1 := Q1.out
        cases r0
        · have HF := Lib.hid (HF.out rfl)
          go_wp2_with fail
          go_quiet (fail)
          go_wp2_with fail
          go_ret
          exact ⟨ret_bool (HF.out).symm, by first | exact below_drewN (below_drewN (Below.refl _ _) _) _ | exact below_drewN (Below.refl _ _) _⟩
        · cases r1
          · have HF := Lib.hid (HF.out rfl)
            go_wp2_with fail
            go_quiet (fail)
            go_wp2_with fail
            go_ret
            exact ⟨ret_bool (HF.out).symm, by first | exact below_drewN (below_drewN (Below.refl _ _) _) _ | exact below_drewN (Below.refl _ _) _⟩
          · have HN := Lib.hid (HN.out rfl)
            go_wp2_with fail
            go_quiet (fail)
            go_wp2_with fail
            exact ⟨⟨k + 1, _, by omega, by go_num, rfl, HN⟩, by simp [intOf]; omega⟩
      · have HT2 : Hid (A = true) := Lib.hid (by
          have h1 := HT.out
          have h2 := HLM.out
          rw [List.take_of_length_le (by omega), List.take_of_length_le (by omega)] at h1
          rw [← HA.out]
          exact decide_eq_true h1)
        go_wp2
        go_ret
        exact ⟨ret_bool (HT2.out).symm, below_drewN (Below.refl _ _) _⟩
  · have hd : sameP l m = false := decide_eq_false fun e => hlm (by rw [e])
    rw [hd]
    have i1 : ¬ (l.length : Int) = (m.length : Int) := by omega
    go_enter Try.func26, Try.ntmps26
    go_wp2
    go_ret
    exact ⟨rfl, Below.refl _ _⟩
set_option maxRecDepth 100000 in
set_option maxHeartbeats 1000000 in
theorem same_own (v1 v2 : Value) (l m : List Pn) (w : World) (h1 : PRow w v1 l) (h2 : PRow w v2 m) (hn : l.length ≤ 1000000) :
    Calls Try.prog 17 #[v1, v2] w fun e w' => e = .returned (.bool (sameP l m)) ∧ Below w.heap.size w w' := by
  obtain ⟨a1, c1, rfl, hc1, hl1⟩ := h1
  obtain ⟨a2, c2, rfl, hc2, hl2⟩ := h2
  have HK := Lib.hid (equal_cells a1 a2 c1 c2 l m w hl1 hl2 hn)
  clear hl1 hl2
  generalize sameP l m = S at *
  go_enter Try.func17, Try.ntmps17
  go_wp2_with fail
  refine (HK.out).mono ?_
  rintro e w2 ⟨rfl, n2⟩
  go_wp2_with fail
  go_ret
  exact ⟨rfl, n2⟩

end Go.Proofs.Ytigkpfdbbifcgaa.Pj
