/- Is a window dropped: walks of the program's own, by a closure, and of the library's functions that it calls. -/
import Derived.Test.YthiofbohllmfbaaZA
namespace Go.Proofs.Ythiofbohllmfbaa.Sh
open Go Go.RowKit Go.Sort Go.Lib Cl Ce Ch

set_option maxRecDepth 100000 in
set_option maxHeartbeats 2000000 in
theorem dropped1_any (B0 B1 : Nat) (wi s x0 x1 : Int) (w : World) (h0 : w.cell? ⟨B0, 0, none⟩ = some (.int .i64 wi)) (h1 : w.cell? ⟨B1, 0, none⟩ = some (.int .i64 s)) :
    Calls Try.prog 62 #[.agg #[.int .i64 x0, .int .i64 x1], .pointer (some ⟨B0, 0, none⟩), .pointer (some ⟨B1, 0, none⟩)] w fun e w' => e = .returned (.bool (dhit wi s ⟨x0, x1⟩)) ∧ Below w.heap.size w w' := by
  have d0 := Lib.hid (aBelow w (.cells #[.int .i64 x0, .int .i64 x1] 39))
  have R0 := cell_kept1 h0 (.cells #[.int .i64 x0, .int .i64 x1] 39)
  have R1 := cell_kept1 h1 (.cells #[.int .i64 x0, .int .i64 x1] 39)
  clear h0 h1
  by_cases c1 : x0 = wi
  · have q1 : (x0 == wi) = true := by simp [c1]
    by_cases c2 : x1 ≤ s
    · have q2 : decide (x1 ≤ s) = true := decide_eq_true c2
      rw [show dhit wi s ⟨x0, x1⟩ = true by unfold dhit; simp [c1, c2]]
      subst c1
      go_enter Try.func62, Try.ntmps62
      go_wp2_with fail
      go_ret
      exact ⟨by first | rfl | simp, d0.out⟩
    · have q2 : decide (x1 ≤ s) = false := decide_eq_false c2
      rw [show dhit wi s ⟨x0, x1⟩ = false by unfold dhit; simp [c2]]
      subst c1
      go_enter Try.func62, Try.ntmps62
      go_wp2_with fail
      go_ret
      exact ⟨by first | rfl | simp [q2], d0.out⟩
  · have q1 : (x0 == wi) = false := by simp [c1]
    rw [show dhit wi s ⟨x0, x1⟩ = false by unfold dhit; simp [c1]]
    go_enter Try.func62, Try.ntmps62
    go_wp2_with fail
    go_ret
    exact ⟨by first | rfl | simp, d0.out⟩

set_option maxRecDepth 100000 in
set_option maxHeartbeats 2000000 in
theorem indexD_any (v : Value) (l : List Drp) (B0 B1 : Nat) (wi s : Int) (w : World) (h : DRow w v l) (hn : l.length ≤ 1000000) (h0 : w.cell? ⟨B0, 0, none⟩ = some (.int .i64 wi)) (h1 : w.cell? ⟨B1, 0, none⟩ = some (.int .i64 s)) :
    Calls Try.prog 70 #[v, .func (.func 62) #[] #[.pointer (some ⟨B0, 0, none⟩), .pointer (some ⟨B1, 0, none⟩)]] w fun e w' => (∃ i : Int, e = .returned (.int .i64 i) ∧ decide (0 ≤ i) = dropped l wi s) ∧ Below w.heap.size w w' := by
  obtain ⟨a, c, rfl, hc, hl⟩ := h
  have HL := Lib.hid hl
  have H0 := Lib.hid h0
  have H1 := Lib.hid h1
  obtain ⟨F, HF⟩ : ∃ F, Hid (dropped l wi s = F) := ⟨_, rfl⟩
  rw [HF.out]
  clear hl h0 h1
  go_enter Try.func70, Try.ntmps70
  go_wp2_with fail
  go_loopw [8] (fun i wr => ∃ k : Nat, k ≤ l.length ∧ i = .int .i64 k ∧ Hid (Below w.heap.size w wr) ∧ Hid (∀ j (hj : j < l.length), j < k → dhit wi s l[j] = false)) (fun i _ => l.length - (intOf i).toNat)
  case atStart => exact ⟨0, Nat.zero_le _, rfl, Below.refl _ _, fun j _ hj => absurd hj (Nat.not_lt_zero j)⟩
  case round =>
    obtain ⟨k, hk, rfl, HD, HT⟩ := hrel
    by_cases hlt : k < l.length
    · obtain ⟨b, o, rfl, hb, hL⟩ := HL.out (ne_of_lt hlt)
      obtain ⟨e1, e2⟩ := d_at (hL.on hb HD.out) k hlt
      have i1 : (k : Int) < (l.length : Int) := by omega
      have i2 : (0 : Int) ≤ (k : Int) := by omega
      have HX : Hid (dhit wi s l[k] = true → F = true) := fun h => (HF.out).symm.trans (dropped_hit hlt h)
      have HN : Hid (dhit wi s l[k] = false → ∀ j (hj : j < l.length), j < k + 1 → dhit wi s l[j] = false) := fun h j hj hjk => by
        by_cases q : j < k
        · exact HT.out j hj q
        · have : j = k := by omega
          subst this; exact h
      generalize l[k] = x at *
      obtain ⟨x0, x1⟩ := x
      simp only at e1 e2
      have HC := Lib.hid (dropped1_any B0 B1 wi s x0 x1 wr (keepC HD.out H0.out (World.block_lt_of_cell? _ _ H0.out)) (keepC HD.out H1.out (World.block_lt_of_cell? _ _ H1.out)))
      clear hL HL HT
      cases T : dhit wi s ⟨x0, x1⟩
      · have HM := Lib.hid (HN.out T)
        rw [T] at HC
        clear HX HN
        go_wp2_with (go_at_call 62; refine HC.out.mono ?_; rintro e w1 ⟨rfl, n1⟩)
        exact ⟨⟨k + 1, by omega, by go_num, HD.out.trans (n1.mono HD.out.size), HM⟩, by simp [intOf]; omega⟩
      · have HM := Lib.hid (HX.out T)
        rw [T] at HC
        clear HX HN
        go_wp2_with (go_at_call 62; refine HC.out.mono ?_; rintro e w1 ⟨rfl, n1⟩)
        go_ret
        exact ⟨⟨_, rfl, by rw [HM.out]; exact decide_eq_true i2⟩, HD.out.trans (n1.mono HD.out.size)⟩
    · have HM := Lib.hid ((HF.out).symm.trans (dropped_not fun j hj => HT.out j hj (by omega)))
      have i1 : ¬ (k : Int) < (l.length : Int) := by omega
      go_wp2_with fail
      go_ret
      exact ⟨⟨_, rfl, by rw [HM.out]; rfl⟩, HD.out⟩

set_option maxRecDepth 100000 in
set_option maxHeartbeats 2000000 in
theorem containsD_any (v : Value) (l : List Drp) (B0 B1 : Nat) (wi s : Int) (w : World) (h : DRow w v l) (hn : l.length ≤ 1000000) (h0 : w.cell? ⟨B0, 0, none⟩ = some (.int .i64 wi)) (h1 : w.cell? ⟨B1, 0, none⟩ = some (.int .i64 s)) :
    Calls Try.prog 61 #[v, .func (.func 62) #[] #[.pointer (some ⟨B0, 0, none⟩), .pointer (some ⟨B1, 0, none⟩)]] w fun e w' => e = .returned (.bool (dropped l wi s)) ∧ Below w.heap.size w w' := by
  have HC := Lib.hid (indexD_any v l B0 B1 wi s w h hn h0 h1)
  obtain ⟨a, c, rfl, -, -⟩ := h
  clear h0 h1
  go_enter Try.func61, Try.ntmps61
  go_wp2_with (go_at_call 70; refine HC.out.mono ?_; rintro e w1 ⟨⟨i, rfl, hi⟩, n1⟩)
  go_ret
  exact ⟨by simp, n1⟩

set_option maxRecDepth 100000 in
set_option maxHeartbeats 2000000 in
theorem dropped_any (v : Value) (l : List Drp) (wi s : Int) (w : World) (h : DRow w v l) (hn : l.length ≤ 1000000) :
    Calls Try.prog 37 #[.int .i64 wi, .int .i64 s, v] w fun e w' => e = .returned (.bool (dropped l wi s)) ∧ Below w.heap.size w w' := by
  have d0 := Lib.hid (aBelow2 w (.cells #[.int .i64 wi] 2) (.cells #[.int .i64 s] 2))
  have HC := Lib.hid (containsD_any v l w.heap.size (w.heap.size + 1) wi s ((w.alloc (.cells #[.int .i64 wi] 2)).alloc (.cells #[.int .i64 s] 2)) (h.on d0.out) hn (by simp) (by simp))
  obtain ⟨a, c, rfl, -, -⟩ := h
  go_enter Try.func37, Try.ntmps37
  go_wp2_with (go_at_call 61; refine HC.out.mono ?_; rintro e w1 ⟨rfl, n1⟩)
  go_ret
  exact ⟨rfl, d0.out.trans (n1.mono d0.out.size)⟩
end Go.Proofs.Ythiofbohllmfbaa.Sh
