/- The program's own: in order, how many there are up to a stamp, the last one, what they tell: walks. -/
import Derived.Test.YthiofbohllmfbaaV7
namespace Go.Proofs.Ythiofbohllmfbaa.Ch
open Go Go.RowKit Go.Sort Go.Lib Cl Ce

/-! ### in order -/
/-- What stands ahead of the k-th one. -/
def aheadI (l : List Ver) (k : Nat) : Int := if k = 0 then 0 else (l.getD (k - 1) zver).st
theorem aheadI_zero (l : List Ver) : aheadI l 0 = 0 := rfl
theorem aheadI_succ {l : List Ver} {k : Nat} (hk : k < l.length) : aheadI l (k + 1) = (l[k]).st := by
  unfold aheadI; rw [if_neg (by omega)]; simp [List.getD, hk]
theorem ahead_bad {l : List Ver} {k : Nat} (hk : k < l.length) (h : (l[k]).st ≤ aheadI l k) : badAt l k hk := by
  unfold aheadI at h
  by_cases h0 : k = 0
  · rw [if_pos h0] at h
    refine Or.inl ?_
    unfold inR
    rw [decide_eq_false (show ¬ 1 ≤ (l[k]).st by omega)]; rfl
  · rw [if_neg h0] at h
    have hk1 : k - 1 < l.length := by omega
    refine Or.inr ⟨by omega, hk1, ?_⟩
    simpa [List.getD, hk1] using h
theorem top_bad {l : List Ver} {k : Nat} (hk : k < l.length) (h : 1000000000000000 < (l[k]).st) : badAt l k hk := by
  refine Or.inl ?_
  unfold inR
  rw [decide_eq_false (show ¬ (l[k]).st ≤ 1000000000000000 by omega), Bool.and_false]
theorem ahead_fine {l : List Ver} {k : Nat} (hk : k < l.length) (hT : ∀ j (hj : j < l.length), j < k → inR l[j] = true ∧ (0 < j → ∃ h' : j - 1 < l.length, (l[j - 1]).st < (l[j]).st)) (h1 : ¬ (l[k]).st ≤ aheadI l k) (h2 : ¬ 1000000000000000 < (l[k]).st) :
    ∀ j (hj : j < l.length), j < k + 1 → inR l[j] = true ∧ (0 < j → ∃ h' : j - 1 < l.length, (l[j - 1]).st < (l[j]).st) := by
  unfold aheadI at h1
  by_cases h0 : k = 0
  · rw [if_pos h0] at h1
    refine fine_next hT hk ?_ (fun h => absurd h (by omega))
    unfold inR
    rw [decide_eq_true (show 1 ≤ (l[k]).st by omega), decide_eq_true (show (l[k]).st ≤ 1000000000000000 by omega)]; rfl
  · rw [if_neg h0] at h1
    have hk1 : k - 1 < l.length := by omega
    have h3 : (l[k - 1]).st < (l[k]).st := by
      have : ¬ (l[k]).st ≤ (l[k - 1]).st := by simpa [List.getD, hk1] using h1
      omega
    have h4 := (hT (k - 1) hk1 (by omega)).1
    unfold inR at h4
    rw [Bool.and_eq_true, decide_eq_true_eq, decide_eq_true_eq] at h4
    refine fine_next hT hk ?_ (fun _ => ⟨hk1, h3⟩)
    unfold inR
    rw [decide_eq_true (show 1 ≤ (l[k]).st by omega), decide_eq_true (show (l[k]).st ≤ 1000000000000000 by omega)]; rfl

set_option maxRecDepth 100000 in
set_option maxHeartbeats 2000000 in
theorem right_any (v : Value) (l : List Ver) (w : World) (h : VRow w v l) (hn : l.length ≤ 1000000) :
    Calls Try.prog 32 #[v] w fun e w' => e = .returned (.bool (vright l)) ∧ Below w.heap.size w w' := by
  obtain ⟨a, c, rfl, hc, hl⟩ := h
  have HL := Lib.hid hl
  obtain ⟨F, HF⟩ : ∃ F, Hid (vright l = F) := ⟨_, rfl⟩
  rw [HF.out]
  clear hl
  go_enter Try.func32, Try.ntmps32
  go_wp2_with fail
  go_loopw [3, 8] (fun s i wr => ∃ k : Nat, k ≤ l.length ∧ i = .int .i64 k ∧ s = .int .i64 (aheadI l k) ∧ Hid (Below w.heap.size w wr) ∧ Hid (∀ j (hj : j < l.length), j < k → inR l[j] = true ∧ (0 < j → ∃ h' : j - 1 < l.length, (l[j - 1]).st < (l[j]).st))) (fun _ i _ => l.length - (intOf i).toNat)
  case atStart => exact ⟨0, Nat.zero_le _, rfl, by rw [aheadI_zero], Below.refl _ _, fun j _ hj => absurd hj (Nat.not_lt_zero j)⟩
  case round =>
    obtain ⟨k, hk, rfl, rfl, HD, HT⟩ := hrel
    by_cases hlt : k < l.length
    · obtain ⟨b, o, rfl, hb, hL⟩ := HL.out (ne_of_lt hlt)
      obtain ⟨e1, e2, e3, e4, e5, e6⟩ := v_at (hL.on hb HD.out) k hlt
      have i1 : (k : Int) < (l.length : Int) := by omega
      have i2 : (0 : Int) ≤ (k : Int) := by omega
      have HX : Hid (badAt l k hlt → F = false) := fun h => (HF.out).symm.trans (vright_not hlt h)
      have HB1 : Hid ((l[k]).st ≤ aheadI l k → F = false) := fun h => HX.out (ahead_bad hlt h)
      have HB2 : Hid (1000000000000000 < (l[k]).st → F = false) := fun h => HX.out (top_bad hlt h)
      have HY := Lib.hid (ahead_fine hlt HT.out)
      have HA := Lib.hid (aheadI_succ hlt)
      have hz := HD.out.size
      generalize aheadI l k = A at *
      generalize l[k] = x at *
      obtain ⟨x0, x1, x2, x3, x4, x5⟩ := x
      simp only at e1 e2 e3 e4 e5 e6 HB1 HB2 HY HA
      clear hL HL HT HX
      by_cases c1 : x0 ≤ A
      · have HM := Lib.hid (HB1.out c1)
        have q1 : decide (x0 ≤ A) = true := decide_eq_true c1
        clear HB1 HB2 HY HA
        go_wp2_with fail
        go_ret
        exact ⟨by first | (rw [HM.out]; done) | (rw [HM.out]; rfl), HD.out.alloc hz _⟩
      · have q1 : decide (x0 ≤ A) = false := decide_eq_false c1
        by_cases c2 : 1000000000000000 < x0
        · have HM := Lib.hid (HB2.out c2)
          have q2 : decide (1000000000000000 < x0) = true := decide_eq_true c2
          clear HB1 HB2 HY HA
          go_wp2_with fail
          go_ret
          exact ⟨by first | (rw [HM.out]; done) | (rw [HM.out]; rfl), HD.out.alloc hz _⟩
        · have q2 : decide (1000000000000000 < x0) = false := decide_eq_false c2
          have HM := Lib.hid (HY.out c1 c2)
          clear HB1 HB2 HY
          go_wp2_with fail
          exact ⟨⟨k + 1, by omega, by go_num, by rw [HA.out], HD.out.alloc hz _, HM⟩, by simp [intOf]; omega⟩
    · have HM := Lib.hid ((HF.out).symm.trans (vright_all fun j hj => HT.out j hj (by omega)))
      have i1 : ¬ (k : Int) < (l.length : Int) := by omega
      go_wp2_with fail
      go_ret
      exact ⟨by first | (rw [HM.out]; done) | (rw [HM.out]; rfl), HD.out⟩

/-! ### up to a stamp -/
set_option maxRecDepth 100000 in
set_option maxHeartbeats 2000000 in
theorem upTo_any (v : Value) (l : List Ver) (s : Int) (w : World) (h : VRow w v l) (hn : l.length ≤ 1000000) :
    Calls Try.prog 60 #[v, .int .i64 s] w fun e w' => e = .returned (.int .i64 (lastI l l.length s + 1)) ∧ w' = w := by
  obtain ⟨a, c, rfl, hc, hl⟩ := h
  have HL := Lib.hid hl
  obtain ⟨F, HF⟩ : ∃ F, Hid (lastI l l.length s = F) := ⟨_, rfl⟩
  rw [HF.out]
  clear hl
  go_enter Try.func60, Try.ntmps60
  go_wp2_with fail
  go_loopw [5] (fun i wr => ∃ k : Nat, k ≤ l.length ∧ i = .int .i64 k ∧ Hid (lastI l k s = F) ∧ w = wr) (fun i _ => (intOf i).toNat)
  case atStart => exact ⟨l.length, Nat.le_refl _, rfl, HF, rfl⟩
  case round =>
    obtain ⟨k, hk, rfl, HT, rfl⟩ := hrel
    cases k with
    | zero =>
      have HM := Lib.hid (show F = -1 from (HT.out).symm.trans (lastI_zero l s))
      go_wp2_with fail
      go_ret
      exact ⟨by rw [HM.out]; rfl, rfl⟩
    | succ k =>
      have hlt : k < l.length := by omega
      obtain ⟨b, o, rfl, hb, hL⟩ := HL.out (ne_of_lt hlt)
      obtain ⟨e1, e2, e3, e4, e5, e6⟩ := v_at hL k hlt
      have HN := Lib.hid ((HT.out).symm.trans (lastI_next hlt s))
      have i0 : (0 : Int) < (k : Int) + 1 := by omega
      have q0 : decide ((0 : Int) < (k : Int) + 1) = true := decide_eq_true i0
      have i1 : (k : Int) < (l.length : Int) := by omega
      have i2 : (0 : Int) ≤ (k : Int) := by omega
      have i3 : (k : Int) + 1 - 1 = (k : Int) := by omega
      have i4 : IntKind.i64.wrap (k : Int) = (k : Int) := by rw [IntKind.wrap_i64]; omega
      generalize l[k] = x at *
      clear hL HL HT
      by_cases c1 : s < x.st
      · have q1 : decide (s < x.st) = true := decide_eq_true c1
        rw [if_neg (show ¬ x.st ≤ s by omega)] at HN
        clear c1
        go_wp2_with fail
        exact ⟨⟨k, by omega, by go_num, (HN.out).symm, by trivial⟩, by simp [intOf]⟩
      · have q1 : decide (s < x.st) = false := decide_eq_false c1
        rw [if_pos (show x.st ≤ s by omega)] at HN
        clear c1
        go_wp2_with fail
        go_ret
        exact ⟨by rw [HN.out]; rfl, rfl⟩

/-! ### the last one -/
def lastV (l : List Ver) : Ver := l.getLast?.getD zver
theorem lastV_st (l : List Ver) : (lastV l).st = lastS l := by unfold lastV lastS; cases l.getLast? <;> rfl
theorem lastV_c (l : List Ver) : (lastV l).c = lastC l := by unfold lastV lastC; cases l.getLast? <;> rfl
theorem lastV_at {l : List Ver} (h : 0 < l.length) : lastV l = l[l.length - 1]'(by omega) := by
  unfold lastV; rw [List.getLast?_eq_getElem?, List.getElem?_eq_getElem (by omega)]; rfl
set_option maxRecDepth 100000 in
set_option maxHeartbeats 1000000 in
theorem latest_any (v : Value) (l : List Ver) (w : World) (h : VRow w v l) (hn : l.length ≤ 1000000) :
    Calls Try.prog 54 #[v] w fun e w' => e = .returned (.agg #[.int .i64 (lastV l).st, .int .i64 (lastV l).c.cnt, .int .i64 (lastV l).c.sn, .bool (lastV l).c.so, .int .i64 (lastV l).c.mn, .int .i64 (lastV l).c.mx]) ∧ Below w.heap.size w w' := by
  obtain ⟨a, c, rfl, hc, hl⟩ := h
  by_cases h0 : l = []
  · subst h0
    clear hl
    go_enter Try.func54, Try.ntmps54
    go_wp2_with fail
    exact bodyPost_ret (v := .agg #[.int .i64 0, .int .i64 0, .int .i64 0, .bool false, .int .i64 0, .int .i64 0]) (by simp [results, Try.results54, go_sem]) rfl ⟨rfl, aBelow _ _⟩
  · have hpos : 0 < l.length := List.length_pos_iff.2 h0
    obtain ⟨b, o, rfl, hb, hL⟩ := hl h0
    rw [lastV_at hpos]
    obtain ⟨e1, e2, e3, e4, e5, e6⟩ := v_at (hL.on hb (aBelow w (.cells #[.int .i64 0, .int .i64 0, .int .i64 0, .bool false, .int .i64 0, .int .i64 0] 81))) (l.length - 1) (by omega)
    have hlz : ((l.length : Int) == 0) = false := by simp; omega
    have hlz2 : ¬ (l.length : Int) = 0 := by omega
    have i1 : (0 : Int) ≤ (l.length : Int) - 1 := by omega
    have i2 : (l.length : Int) - 1 < (l.length : Int) := by omega
    have i3 : ((l.length : Int) - 1).toNat = l.length - 1 := by omega
    have i4 : IntKind.i64.wrap ((l.length : Int) - 1) = (l.length : Int) - 1 := by rw [IntKind.wrap_i64]; omega
    generalize l[l.length - 1] = x at *
    obtain ⟨x0, x1, x2, x3, x4, x5⟩ := x
    simp only at e1 e2 e3 e4 e5 e6 ⊢
    clear hL hl
    go_enter Try.func54, Try.ntmps54
    go_wp2_with fail
    exact bodyPost_ret (v := .agg #[.int .i64 x0, .int .i64 x1, .int .i64 x2, .bool x3, .int .i64 x4, .int .i64 x5]) (by simp [results, Try.results54, go_sem]) rfl ⟨rfl, aBelow _ _⟩

/-! ### at a stamp; the last one's -/
theorem atS_upTo (l : List Ver) (s : Int) : (lastV (l.take (lastI l l.length s + 1).toNat)).c = atS l s := by
  rcases lastI_cases l s l.length (Nat.le_refl _) with ⟨h1, h2⟩ | ⟨i, hi, _, h2, h3, h4⟩
  · rw [h1]
    rw [atS_none (fun v hv => by
      obtain ⟨j, hj, rfl⟩ := List.mem_iff_getElem.1 hv
      exact h2 j hj hj)]
    rfl
  · rw [h2, atS_back hi h3 (fun j hj hij => h4 j hj hij hj)]
    have e : ((i : Int) + 1).toNat = i + 1 := by omega
    have hl : (l.take (i + 1)).length = i + 1 := by rw [List.length_take]; omega
    rw [e, lastV_at (by rw [hl]; omega)]
    simp only [hl, List.getElem_take]
    rfl
theorem upTo_le (l : List Ver) (s : Int) : 0 ≤ lastI l l.length s + 1 ∧ lastI l l.length s + 1 ≤ (l.length : Int) := by
  rcases lastI_cases l s l.length (Nat.le_refl _) with ⟨h1, _⟩ | ⟨i, hi, _, h2, _, _⟩ <;> omega
set_option maxRecDepth 100000 in
theorem field_st (x0 x1 x2 : Int) (x3 : Bool) (x4 x5 : Int) : ∀ w : World, Sem.run Try.prog (Instr.field 81 (.agg #[.int .i64 x0, .int .i64 x1, .int .i64 x2, .bool x3, .int .i64 x4, .int .i64 x5]) 0) w = .ok (.int .i64 x0) w := fun _ => by kernel_rfl
set_option maxRecDepth 100000 in
theorem field_c (x0 x1 x2 : Int) (x3 : Bool) (x4 x5 : Int) : ∀ w : World, Sem.run Try.prog (Instr.field 81 (.agg #[.int .i64 x0, .int .i64 x1, .int .i64 x2, .bool x3, .int .i64 x4, .int .i64 x5]) 1) w = .ok (.agg #[.int .i64 x1, .int .i64 x2, .bool x3, .int .i64 x4, .int .i64 x5]) w := fun _ => by kernel_rfl
set_option maxRecDepth 100000 in
set_option maxHeartbeats 1000000 in
theorem at_any (v : Value) (l : List Ver) (s : Int) (w : World) (h : VRow w v l) (hn : l.length ≤ 1000000) :
    Calls Try.prog 35 #[v, .int .i64 s] w fun e w' => e = .returned (celV (atS l s)) ∧ Below w.heap.size w w' := by
  unfold celV
  have HU := Lib.hid (fun W (d : Below w.heap.size w W) => upTo_any v l s W (h.on d) hn)
  obtain ⟨a, c, rfl, hc, hl⟩ := h
  obtain ⟨n, hN⟩ : ∃ n : Nat, lastI l l.length s + 1 = (n : Int) := ⟨(lastI l l.length s + 1).toNat, by have := (upTo_le l s).1; omega⟩
  have hnl : n ≤ l.length := by have := (upTo_le l s).2; omega
  have hrow : ∀ W, Below w.heap.size w W → VRow W (.slice a n c) (l.take n) := fun W d => vrow_take ⟨a, c, rfl, hc, hl.on d⟩ n hnl
  have HK := Lib.hid (fun W (d : Below w.heap.size w W) => latest_any _ _ W (hrow W d) (by rw [List.length_take]; omega))
  have HA := atS_upTo l s
  rw [hN] at HU HA
  have e : ((n : Int)).toNat = n := by omega
  rw [e] at HA
  rw [← HA]
  generalize lastV (l.take n) = x at *
  obtain ⟨x0, x1, x2, x3, x4, x5⟩ := x
  clear hl hrow hN HA e
  have i1 : (0 : Int) ≤ (n : Int) := by omega
  have i2 : (n : Int) ≤ (c : Int) := by omega
  go_enter Try.func35, Try.ntmps35
  go_wp2_with fail
  have d1 := aBelow w (.cells #[.int .i64 0, .int .i64 0, .bool false, .int .i64 0, .int .i64 0] 52)
  refine (HU.out _ d1).mono ?_
  rintro e w2 ⟨rfl, rfl⟩
  go_wp2_with fail
  refine (HK.out _ d1).mono ?_
  rintro e w3 ⟨rfl, n3⟩
  have d3 := d1.trans (n3.mono d1.size)
  have hf := field_c x0 x1 x2 x3 x4 x5
  have r0 := keepC n3 (show (w.alloc (.cells #[.int .i64 0, .int .i64 0, .bool false, .int .i64 0, .int .i64 0] 52)).cell? ⟨w.heap.size, 0, none⟩ = some (.int .i64 0) by simp) (by simp)
  have r1 := keepC n3 (show (w.alloc (.cells #[.int .i64 0, .int .i64 0, .bool false, .int .i64 0, .int .i64 0] 52)).cell? ⟨w.heap.size, 1, none⟩ = some (.int .i64 0) by simp) (by simp)
  have r2 := keepC n3 (show (w.alloc (.cells #[.int .i64 0, .int .i64 0, .bool false, .int .i64 0, .int .i64 0] 52)).cell? ⟨w.heap.size, 2, none⟩ = some (.bool false) by simp) (by simp)
  have r3 := keepC n3 (show (w.alloc (.cells #[.int .i64 0, .int .i64 0, .bool false, .int .i64 0, .int .i64 0] 52)).cell? ⟨w.heap.size, 3, none⟩ = some (.int .i64 0) by simp) (by simp)
  have r4 := keepC n3 (show (w.alloc (.cells #[.int .i64 0, .int .i64 0, .bool false, .int .i64 0, .int .i64 0] 52)).cell? ⟨w.heap.size, 4, none⟩ = some (.int .i64 0) by simp) (by simp)
  have RB : Ce.Box w3 w.heap.size zero := ⟨r0, r1, r2, r3, r4⟩
  have RF : Ce.Free w3 w.heap.size := (Ce.Free.new w w.heap.size zero rfl).on (by simp) n3
  have HB := Lib.hid (RB.set ⟨x1, x2, x3, x4, x5⟩ RF)
  have HD := Lib.hid (put_below ⟨x1, x2, x3, x4, x5⟩ d3 (Nat.le_refl _))
  obtain ⟨f0, f1, f2, f3, f4⟩ := RF
  clear RB
  go_wp2_with fail
  obtain ⟨y0, y1, y2, y3, y4⟩ := HB.out.1
  simp only [put] at y0 y1 y2 y3 y4
  exact bodyPost_ret (v := .agg #[.int .i64 x1, .int .i64 x2, .bool x3, .int .i64 x4, .int .i64 x5]) (by simp [results, Try.results35, go_sem, y0, y1, y2, y3, y4]) rfl ⟨rfl, HD.out⟩
end Go.Proofs.Ythiofbohllmfbaa.Ch
