/- The program's own: what nobody reads pruned; all seven together. -/
import Derived.Test.YthiofbohllmfbaaXB
namespace Go.Proofs.Ythiofbohllmfbaa.Ch
open Go Go.RowKit Go.Sort Go.Lib Cl Ce

set_option maxRecDepth 100000 in
set_option maxHeartbeats 4000000 in
theorem prune_any (v : Value) (l : List Ver) (f : Int) (w : World) (h : VRow w v l) (hn : l.length ≤ 100000) :
    Calls Try.prog 40 #[v, .int .i64 f] w fun e w' => (∃ v', e = .returned v' ∧ VOwn w.heap.size w' v' (prune l f)) ∧ Below w.heap.size w w' := by
  obtain ⟨j0, hi, hz0, hz1, hz2⟩ := info40
  have HI := Lib.hid (And.intro hi (And.intro hz0 (And.intro hz1 hz2)))
  clear hi hz0 hz1 hz2
  have HU := Lib.hid (upTo_any v l f w h (by omega))
  have hJb := upTo_le l f
  obtain ⟨a, c, rfl, hc, hl⟩ := h
  have HL := Lib.hid hl
  clear hl
  generalize hJ : lastI l l.length f = J at *
  go_enter Try.func40, Try.ntmps40
  go_wp2_with fail
  refine (HU.out).mono ?_
  rintro e w1 ⟨rfl, rfl⟩
  obtain ⟨w, hw⟩ : ∃ w, w = w1 := ⟨_, rfl⟩
  subst hw
  clear HU
  have hJ1 : J + 1 - 1 = J := by omega
  have hJ2 : IntKind.i64.wrap J = J := by rw [IntKind.wrap_i64]; omega
  go_wp2_with fail
  go_loopw [5, 14] (fun out i wr2 => ∃ (k : Nat), k ≤ l.length ∧ i = .int .i64 k ∧ Hid (wr2.ownsRow w.heap.size 81 6 out (pruneTo l f k).length (flatG verC (pruneTo l f k))) ∧ Hid (Below w.heap.size w wr2)) (fun _ i _ => l.length - (intOf i).toNat)
  case atStart => exact ⟨0, Nat.zero_le _, rfl, by rw [pruneTo_zero]; exact ownG_nil _ _ _, Below.refl _ _⟩
  case round =>
    obtain ⟨k, hk, rfl, HO, HD⟩ := hrel
    by_cases hlt : k < l.length
    · obtain ⟨b, o, rfl, hb, hL⟩ := HL.out (Go.Proofs.Ythiofbohllmfbaa.ne_of_lt hlt)
      obtain ⟨e1, e2, e3, e4, e5, e6⟩ := v_at (hL.on hb HD.out) k hlt
      have i1 : (k : Int) < (l.length : Int) := by omega
      have i2 : (0 : Int) ≤ (k : Int) := by omega
      have hz := (HD.out).size
      have HR := Lib.hid (pruneTo_next hlt f)
      rw [hJ] at HR
      have hpl := pruneTo_len l f k
      generalize l[k] = x at *
      generalize pruneTo l f k = S at *
      obtain ⟨x0, x1, x2, x3, x4, x5⟩ := x
      simp only at e1 e2 e3 e4 e5 e6 HR
      clear hL HL
      have hz1 : (wr.alloc (.cells #[.int .i64 x0, .int .i64 x1, .int .i64 x2, .bool x3, .int .i64 x4, .int .i64 x5] 81)).heap.size = wr.heap.size + 1 := by simp
      have hz2 : w.heap.size ≤ (wr.alloc (.cells #[.int .i64 x0, .int .i64 x1, .int .i64 x2, .bool x3, .int .i64 x4, .int .i64 x5] 81)).heap.size := by omega
      have hnw := new1V (wr.alloc (.cells #[.int .i64 x0, .int .i64 x1, .int .i64 x2, .bool x3, .int .i64 x4, .int .i64 x5] 81)) ⟨x0, ⟨x1, x2, x3, x4, x5⟩⟩
      rw [hz1] at hnw
      have HNW := Lib.hid hnw
      have HB := Lib.hid ((HD.out.alloc hz (.cells #[.int .i64 x0, .int .i64 x1, .int .i64 x2, .bool x3, .int .i64 x4, .int .i64 x5] 81)).alloc hz2 (.cells #[.int .i64 x0, .int .i64 x1, .int .i64 x2, .bool x3, .int .i64 x4, .int .i64 x5] 81))
      have HOB := Lib.hid ((HO.out.alloc (.cells #[.int .i64 x0, .int .i64 x1, .int .i64 x2, .bool x3, .int .i64 x4, .int .i64 x5] 81)).alloc (.cells #[.int .i64 x0, .int .i64 x1, .int .i64 x2, .bool x3, .int .i64 x4, .int .i64 x5] 81))
      have HZ2 : Hid (w.heap.size ≤ ((wr.alloc (.cells #[.int .i64 x0, .int .i64 x1, .int .i64 x2, .bool x3, .int .i64 x4, .int .i64 x5] 81)).alloc (.cells #[.int .i64 x0, .int .i64 x1, .int .i64 x2, .bool x3, .int .i64 x4, .int .i64 x5] 81)).heap.size) := by show _ ≤ _; simp; omega
      clear hz1 hz2 hnw
      by_cases hs : f < x0
      · have q1 : decide (f < x0) = true := decide_eq_true hs
        rw [if_pos (Or.inl hs)] at HR
        clear hs
        go_wp2_with (first | (at_builtin; refine wpList_append_own _ rfl _ _ 57 rfl w.heap.size 81 j0 (.agg #[.int .i64 0, .int .i64 0, .int .i64 0, .bool false, .int .i64 0, .int .i64 0]) 6 48 Try.underlying57 HI.out.1 HI.out.2.1 HI.out.2.2.1 HI.out.2.2.2 rfl (by decide) _ _ _ rfl HOB.out ⟨wr.heap.size + 1, 0, none⟩ 1 1 (verC ⟨x0, ⟨x1, x2, x3, x4, x5⟩⟩) rfl rfl HNW.out (verC_one _) (by unfold maxLen; omega) (by omega) HZ2.out ?_; intro v' w3 hown hgrow hnil))
        have HO3 := Lib.hid (ownG_next hown)
        have hb3 := Lib.hid (HB.out.grown hgrow HZ2.out (fun j hj => (HOB.out.lt j hj).1))
        clear hown hgrow
        exact ⟨⟨k + 1, by omega, by go_num, by rw [HR.out]; exact HO3, hb3⟩, by simp [intOf]; omega⟩
      · have q1 : decide (f < x0) = false := decide_eq_false hs
        by_cases hj : (k : Int) = J
        · have q2 : ((k : Int) == J) = true := by simp [hj]
          rw [if_pos (Or.inr hj)] at HR
          clear hs hJ
          have HJ := Lib.hid hj
          clear hj
          go_wp2_with (first | (at_builtin; refine wpList_append_own _ rfl _ _ 57 rfl w.heap.size 81 j0 (.agg #[.int .i64 0, .int .i64 0, .int .i64 0, .bool false, .int .i64 0, .int .i64 0]) 6 48 Try.underlying57 HI.out.1 HI.out.2.1 HI.out.2.2.1 HI.out.2.2.2 rfl (by decide) _ _ _ rfl HOB.out ⟨wr.heap.size + 1, 0, none⟩ 1 1 (verC ⟨x0, ⟨x1, x2, x3, x4, x5⟩⟩) rfl rfl HNW.out (verC_one _) (by unfold maxLen; omega) (by omega) HZ2.out ?_; intro v' w3 hown hgrow hnil))
          have HO3 := Lib.hid (ownG_next hown)
          have hb3 := Lib.hid (HB.out.grown hgrow HZ2.out (fun j hj => (HOB.out.lt j hj).1))
          clear hown hgrow
          exact ⟨⟨k + 1, by omega, by go_num, by rw [HR.out]; exact HO3, hb3⟩, by simp [intOf]; omega⟩
        · have q2 : ((k : Int) == J) = false := by simp [hj]
          rw [if_neg (by rintro (h | h); exact hs h; exact hj h)] at HR
          have HD1 := Lib.hid (HD.out.alloc hz (.cells #[.int .i64 x0, .int .i64 x1, .int .i64 x2, .bool x3, .int .i64 x4, .int .i64 x5] 81))
          have HO1 := Lib.hid (HO.out.alloc (.cells #[.int .i64 x0, .int .i64 x1, .int .i64 x2, .bool x3, .int .i64 x4, .int .i64 x5] 81))
          clear hs HB HOB HZ2 HNW
          go_wp2_with fail
          exact ⟨⟨k + 1, by omega, by go_num, by rw [HR.out]; exact HO1, HD1⟩, by simp [intOf]; omega⟩
    · have i1 : ¬ (k : Int) < (l.length : Int) := by omega
      have hka : k = l.length := by omega
      subst hka
      have HRR := Lib.hid (show VOwn w.heap.size wr _ (prune l f) from HO.out)
      go_wp2_with fail
      go_ret
      exact ⟨⟨_, rfl, HRR.out⟩, HD.out⟩

end Go.Proofs.Ythiofbohllmfbaa.Ch
