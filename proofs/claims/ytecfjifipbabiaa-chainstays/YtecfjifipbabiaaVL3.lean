/- A walk of the law ChainStays. -/
import Derived.Test.YtecfjifipbabiaaV6
import Derived.Test.YtecfjifipbabiaaV7
namespace Go.Proofs.Ytecfjifipbabiaa.Ch
open Go Go.RowKit Go.Sort Go.Lib Cl Ce

/-- How many of the first k are of a stamp up to f. -/
def cntTo (P : List Ver) (f : Int) (k : Nat) : Nat := ((P.take k).filter fun v => decide (v.st ≤ f)).length
theorem cntTo_yes {P : List Ver} {f : Int} {k : Nat} (hk : k < P.length) (h : P[k].st ≤ f) : cntTo P f (k + 1) = cntTo P f k + 1 := by
  unfold cntTo; rw [List.take_succ_eq_append_getElem hk, List.filter_append, List.length_append]; simp [h]
theorem cntTo_no {P : List Ver} {f : Int} {k : Nat} (hk : k < P.length) (h : ¬ P[k].st ≤ f) : cntTo P f (k + 1) = cntTo P f k := by
  unfold cntTo; rw [List.take_succ_eq_append_getElem hk, List.filter_append, List.length_append]; simp [h]
theorem cntTo_le (P : List Ver) (f : Int) (k : Nat) : cntTo P f k ≤ P.length := by
  unfold cntTo; exact Nat.le_trans (List.length_filter_le _ _) (by rw [List.length_take]; omega)
theorem cntTo_all {P : List Ver} {f : Int} {k : Nat} (hk : ¬ k < P.length) (h : (P.filter fun v => decide (v.st ≤ f)).length ≤ 1) : cntTo P f k ≤ 1 := by
  unfold cntTo; rw [List.take_of_length_le (by omega)]; exact h
set_option maxRecDepth 100000 in
set_option maxHeartbeats 1000000 in
theorem stays_big (O : Own10) (v1 : Value) (l : List Ver) (f s : Int) (w : World) (h1 : VRow w v1 l) (hb : 200 < l.length) :
    Calls Try.prog 5 #[v1, .int .i64 f, .int .i64 s] w fun e w' => e = .returned (.bool true) ∧ Below w.heap.size w w' := by
  have HAl := Lib.hid (alive_any O w)
  obtain ⟨a1, c1, rfl, _, _⟩ := h1
  have u1 : decide ((200 : Int) < (l.length : Int)) = true := decide_eq_true (by omega)
  have u1' : (200 : Int) < (l.length : Int) := by omega
  go_enter Try.func5, Try.ntmps5
  go_wp2_with fail
  refine (HAl.out).mono ?_
  rintro e w1 ⟨rfl, n1⟩
  go_wp2_with fail
  go_ret
  exact ⟨rfl, n1⟩
set_option maxRecDepth 100000 in
set_option maxHeartbeats 1000000 in
theorem stays_no (O : Own10) (v1 : Value) (l : List Ver) (f s : Int) (w : World) (h1 : VRow w v1 l) (hb : l.length ≤ 200) (hr : vright l = false) :
    Calls Try.prog 5 #[v1, .int .i64 f, .int .i64 s] w fun e w' => e = .returned (.bool true) ∧ Below w.heap.size w w' := by
  have HAl := Lib.hid (alive_any O w)
  have K1 := Lib.hid (fun W (n : Below w.heap.size w W) => refRightV_any v1 l W (h1.on n) (by omega))
  rw [hr] at K1
  obtain ⟨a1, c1, rfl, _, _⟩ := h1
  have u1 : decide ((200 : Int) < (l.length : Int)) = false := decide_eq_false (by omega)
  have u1' : ¬ (200 : Int) < (l.length : Int) := by omega
  go_enter Try.func5, Try.ntmps5
  go_wp2_with fail
  refine (HAl.out).mono ?_
  rintro e w1 ⟨rfl, n1⟩
  go_wp2_with fail
  refine (K1.out _ n1).mono ?_
  rintro e w2 ⟨rfl, n2⟩
  go_wp2_with fail
  go_ret
  exact ⟨rfl, n1.trans (n2.mono n1.size)⟩
set_option maxRecDepth 100000 in
set_option maxHeartbeats 4000000 in
theorem stays_ok (O : Own10) (v1 : Value) (l : List Ver) (f s : Int) (w : World) (h1 : VRow w v1 l) (hb : l.length ≤ 200) (hr : vright l = true) :
    Calls Try.prog 5 #[v1, .int .i64 f, .int .i64 s] w fun e w' => e = .returned (.bool true) ∧ Below w.heap.size w w' := by
  have HAl := Lib.hid (alive_any O w)
  obtain ⟨p1, p2, p3, p4⟩ := prune_facts hr f
  have hpl := prune_len l f
  have K1 := Lib.hid (fun W (n : Below w.heap.size w W) => refRightV_any v1 l W (h1.on n) (by omega))
  have K2 := Lib.hid (fun W (n : Below w.heap.size w W) => O.prune v1 l f W (h1.on n) (by omega))
  have K3 := Lib.hid (fun W u (g : VRow W u (prune l f)) => refRightV_any u (prune l f) W g (by omega))
  have K4 := Lib.hid (fun W u (g : VRow W u (prune l f)) => O.at' u (prune l f) s W g (by omega))
  have K5 := Lib.hid (fun W (n : Below w.heap.size w W) => O.at' v1 l s W (h1.on n) (by omega))
  have K6 := Lib.hid (fun W u (g : VRow W u (prune l f)) => O.prune u (prune l f) f W g (by omega))
  have K7 := Lib.hid (fun W u1 u2 (g1 : VRow W u1 (prune l f)) (g2 : VRow W u2 (prune l f)) => refSameV_any u1 u2 (prune l f) (prune l f) W g1 g2 (by omega))
  have HE := Lib.hid (fun (h : f ≤ s) => p3 s h)
  rw [hr] at K1
  rw [p2] at K3
  rw [p4] at K6
  rw [(sameV_true _ _).2 rfl] at K7
  have HC := Lib.hid (fun k (hk : ¬ k < (prune l f).length) => cntTo_all (f := f) hk p1)
  have hP : (prune l f).length ≤ 200 := by omega
  generalize atS (prune l f) s = C1 at *
  generalize atS l s = C2 at *
  generalize prune l f = P at *
  obtain ⟨a1, c1, rfl, _, _⟩ := h1
  clear p1 p2 p3 p4 hr
  have u1 : decide ((200 : Int) < (l.length : Int)) = false := decide_eq_false (by omega)
  have u1' : ¬ (200 : Int) < (l.length : Int) := by omega
  have u2 : decide ((P.length : Int) ≤ (l.length : Int)) = true := decide_eq_true (by omega)
  have u3 : (P.length : Int) ≤ (l.length : Int) := by omega
  go_enter Try.func5, Try.ntmps5
  go_wp2_with fail
  refine (HAl.out).mono ?_
  rintro e w1 ⟨rfl, n1⟩
  go_wp2_with fail
  refine (K1.out _ n1).mono ?_
  rintro e w2 ⟨rfl, n2⟩
  have d2 := n1.trans (n2.mono n1.size)
  go_wp2_with fail
  refine (K2.out _ d2).mono ?_
  rintro e w3 ⟨⟨_, rfl, r3⟩, n3⟩
  have d3 := d2.trans (n3.mono d2.size)
  have R3 := Lib.hid (fun W (n : Below w3.heap.size w3 W) => r3.on n)
  obtain ⟨a3, c3, rfl, _, hl3⟩ := r3
  have HL := Lib.hid hl3
  clear hl3 n1 n2 n3 d2 K1 K2 HAl
  go_wp2_with fail
  go_loop [8, 9] (fun n i => ∃ (k : Nat), k ≤ P.length ∧ i = .int .i64 k ∧ n = .int .i64 (cntTo P f k)) (fun _ i => P.length - (intOf i).toNat)
  case atStart => exact ⟨0, Nat.zero_le _, rfl, rfl⟩
  case round =>
    obtain ⟨k, hk, rfl, rfl⟩ := hrel
    have hcn := cntTo_le P f k
    by_cases hlt : k < P.length
    · obtain ⟨b, o, rfl, hb', hL⟩ := HL.out (ne_of_lt hlt)
      obtain ⟨e1, -⟩ := v_at hL k hlt
      have i1 : (k : Int) < (P.length : Int) := by omega
      have i2 : (0 : Int) ≤ (k : Int) := by omega
      have i3 : IntKind.i64.wrap ((cntTo P f k : Int) + 1) = (cntTo P f k : Int) + 1 := by rw [IntKind.wrap_i64]; omega
      by_cases hg : P[k].st ≤ f
      · have hn := Lib.hid (cntTo_yes hlt hg)
        have g1 : decide (P[k].st ≤ f) = true := decide_eq_true hg
        generalize P[k] = x at *
        generalize cntTo P f k = N0 at *
        go_wp2_with fail
        exact ⟨⟨k + 1, by omega, by go_num, by rw [hn.out]; go_num⟩, by simp [intOf]; omega⟩
      · have hn := Lib.hid (cntTo_no hlt hg)
        have g1 : decide (P[k].st ≤ f) = false := decide_eq_false hg
        generalize P[k] = x at *
        generalize cntTo P f k = N0 at *
        go_wp2_with fail
        exact ⟨⟨k + 1, by omega, by go_num, by rw [hn.out]⟩, by simp [intOf]; omega⟩
    · have i1 : decide ((k : Int) < (P.length : Int)) = false := decide_eq_false (by omega)
      have i1' : ¬ (k : Int) < (P.length : Int) := by omega
      have hc1 := HC.out k hlt
      have i2 : decide ((cntTo P f k : Int) ≤ 1) = true := decide_eq_true (by omega)
      have i3 : (cntTo P f k : Int) ≤ 1 := by omega
      generalize cntTo P f k = N0 at *
      clear HC HL
      go_wp2_with fail
      refine (K3.out _ _ (R3.out _ (Below.refl _ _))).mono ?_
      rintro e w4 ⟨rfl, n4⟩
      have d4 := d3.trans (n4.mono d3.size)
      by_cases hs : s < f
      · have j1 : decide (s < f) = true := decide_eq_true hs
        clear HE K3 K4 K5
        go_wp2_with fail
        refine (K6.out _ _ (R3.out _ n4)).mono ?_
        rintro e w5 ⟨⟨_, rfl, r5⟩, n5⟩
        have R5 := Lib.hid r5
        obtain ⟨a5, c5, rfl, _, _⟩ := r5
        have m5 := n4.trans (n5.mono n4.size)
        have d5 := d4.trans (n5.mono d4.size)
        go_wp2_with fail
        refine (K7.out _ _ _ R5.out (R3.out _ m5)).mono ?_
        rintro e w6 ⟨rfl, n6⟩
        go_wp2_with fail
        go_ret
        exact ⟨rfl, d5.trans (n6.mono d5.size)⟩
      · have j1 : decide (s < f) = false := decide_eq_false hs
        have hC := HE.out (by omega)
        subst hC
        obtain ⟨y1, y2, y3, y4, y5⟩ := C1
        unfold celV at K4 K5
        simp only at K4 K5
        have q3 : (y1 == y1) = true := by simp
        have q4 : (y2 == y2) = true := by simp
        have q5 : (y3 == y3) = true := by simp
        have q6 : (y4 == y4) = true := by simp
        have q7 : (y5 == y5) = true := by simp
        clear HE K3
        go_wp2_with fail
        refine (K4.out _ _ (R3.out _ n4)).mono ?_
        rintro e w5 ⟨rfl, n5⟩
        have m5 := n4.trans (n5.mono n4.size)
        have d5 := d4.trans (n5.mono d4.size)
        go_wp2_with fail
        refine (K5.out _ d5).mono ?_
        rintro e w6 ⟨rfl, n6⟩
        have m6 := m5.trans (n6.mono m5.size)
        have d6 := d5.trans (n6.mono d5.size)
        go_wp2_with fail
        refine (K6.out _ _ (R3.out _ m6)).mono ?_
        rintro e w7 ⟨⟨_, rfl, r7⟩, n7⟩
        have R7 := Lib.hid r7
        obtain ⟨a7, c7, rfl, _, _⟩ := r7
        have m7 := m6.trans (n7.mono m6.size)
        have d7 := d6.trans (n7.mono d6.size)
        go_wp2_with fail
        refine (K7.out _ _ _ R7.out (R3.out _ m7)).mono ?_
        rintro e w8 ⟨rfl, n8⟩
        go_wp2_with fail
        go_ret
        exact ⟨rfl, d7.trans (n8.mono d7.size)⟩
/-- The law ChainStays. -/
theorem stays_walk (O : Own10) (v1 : Value) (l : List Ver) (f s : Int) (w : World) (h1 : VRow w v1 l) :
    Calls Try.prog 5 #[v1, .int .i64 f, .int .i64 s] w fun e w' => e = .returned (.bool true) ∧ Below w.heap.size w w' := by
  rcases Nat.lt_or_ge 200 l.length with hb | hb
  · exact stays_big O v1 l f s w h1 hb
  · cases hr : vright l
    · exact stays_no O v1 l f s w h1 hb hr
    · exact stays_ok O v1 l f s w h1 hb hr
end Go.Proofs.Ytecfjifipbabiaa.Ch
