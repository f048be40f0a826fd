/- A walk of the law ChainPuts. -/
import Derived.Test.YtecfjifipbabiaaV6
import Derived.Test.YtecfjifipbabiaaV7
namespace Go.Proofs.Ytecfjifipbabiaa.Ch
open Go Go.RowKit Go.Sort Go.Lib Cl Ce

theorem putV_len (l m : List Ver) : (putV l m).1.length ≤ l.length + m.length := by
  cases h : vright (l ++ m)
  · rw [putV_no h]; simp
  · rw [putV_ok h]; simp
theorem foldV_len (l : List Ver) (s x : Int) : (foldV l s x).1.length ≤ l.length + 1 := putV_len l [⟨s, fold (lastC l) x⟩]
set_option maxRecDepth 100000 in
set_option maxHeartbeats 1000000 in
theorem puts_big1 (O : Own10) (v1 v2 : Value) (l m : List Ver) (x : Int) (w : World) (h1 : VRow w v1 l) (h2 : VRow w v2 m) (hb : 200 < l.length) :
    Calls Try.prog 4 #[v1, v2, .int .i64 x] w fun e w' => e = .returned (.bool true) ∧ Below w.heap.size w w' := by
  have HAl := Lib.hid (alive_any O w)
  obtain ⟨a1, c1, rfl, _, _⟩ := h1
  obtain ⟨a2, c2, rfl, _, _⟩ := h2
  have u1 : decide ((200 : Int) < (l.length : Int)) = true := decide_eq_true (by omega)
  have u1' : (200 : Int) < (l.length : Int) := by omega
  go_enter Try.func4, Try.ntmps4
  go_wp2_with fail
  refine (HAl.out).mono ?_
  rintro e w1 ⟨rfl, n1⟩
  go_wp2_with fail
  go_ret
  exact ⟨rfl, n1⟩
set_option maxRecDepth 100000 in
set_option maxHeartbeats 1000000 in
theorem puts_big2 (O : Own10) (v1 v2 : Value) (l m : List Ver) (x : Int) (w : World) (h1 : VRow w v1 l) (h2 : VRow w v2 m) (hb1 : l.length ≤ 200) (hb : 200 < m.length) :
    Calls Try.prog 4 #[v1, v2, .int .i64 x] w fun e w' => e = .returned (.bool true) ∧ Below w.heap.size w w' := by
  have HAl := Lib.hid (alive_any O w)
  obtain ⟨a1, c1, rfl, _, _⟩ := h1
  obtain ⟨a2, c2, rfl, _, _⟩ := h2
  have u1 : decide ((200 : Int) < (l.length : Int)) = false := decide_eq_false (by omega)
  have u1' : ¬ (200 : Int) < (l.length : Int) := by omega
  have u2 : decide ((200 : Int) < (m.length : Int)) = true := decide_eq_true (by omega)
  have u2' : (200 : Int) < (m.length : Int) := by omega
  go_enter Try.func4, Try.ntmps4
  go_wp2_with fail
  refine (HAl.out).mono ?_
  rintro e w1 ⟨rfl, n1⟩
  go_wp2_with fail
  go_ret
  exact ⟨rfl, n1⟩
set_option maxRecDepth 100000 in
set_option maxHeartbeats 1000000 in
theorem puts_none (O : Own10) (v1 v2 : Value) (l m : List Ver) (x : Int) (w : World) (h1 : VRow w v1 l) (h2 : VRow w v2 m) (hb1 : l.length ≤ 200) (hb : m = []) :
    Calls Try.prog 4 #[v1, v2, .int .i64 x] w fun e w' => e = .returned (.bool true) ∧ Below w.heap.size w w' := by
  have HAl := Lib.hid (alive_any O w)
  obtain ⟨a1, c1, rfl, _, _⟩ := h1
  obtain ⟨a2, c2, rfl, _, _⟩ := h2
  have u1 : decide ((200 : Int) < (l.length : Int)) = false := decide_eq_false (by omega)
  have u1' : ¬ (200 : Int) < (l.length : Int) := by omega
  subst hb
  go_enter Try.func4, Try.ntmps4
  go_wp2_with fail
  refine (HAl.out).mono ?_
  rintro e w1 ⟨rfl, n1⟩
  go_wp2_with fail
  go_ret
  exact ⟨rfl, n1⟩
set_option maxRecDepth 100000 in
set_option maxHeartbeats 4000000 in
theorem puts_ok (O : Own10) (v1 v2 : Value) (l m : List Ver) (x : Int) (w : World) (h1 : VRow w v1 l) (h2 : VRow w v2 m) (ho : ∀ y ∈ l, okV y) (hx : ok64 x) (hb1 : l.length ≤ 200) (hb2 : m.length ≤ 200) (hb3 : 0 < m.length) :
    Calls Try.prog 4 #[v1, v2, .int .i64 x] w fun e w' => e = .returned (.bool true) ∧ Below w.heap.size w w' := by
  have HAl := Lib.hid (alive_any O w)
  obtain ⟨j0, hi, hz0, hz1, hz2⟩ := info40
  have HI := Lib.hid (And.intro hi (And.intro hz0 (And.intro hz1 hz2)))
  have H1 := Lib.hid (fun W (n : Below w.heap.size w W) => h1.on n)
  have H2 := Lib.hid (fun W (n : Below w.heap.size w W) => h2.on n)
  obtain ⟨a1, c1, rfl, hc1, hl1⟩ := h1
  obtain ⟨b2, o2, c2, rfl, _, hb2, hL2⟩ := h2.open (by intro e; subst e; simp at hb3)
  obtain ⟨st, Hst⟩ : ∃ st, Hid ((m[0]'hb3).st = st) := ⟨_, rfl⟩
  have HM2 : Hid (∀ W, Below w.heap.size w W → W.cell? ⟨b2, o2, none⟩ = some (.int .i64 st)) := fun W n => by
    have := (v_at (hL2.on hb2 n) 0 hb3).1
    rw [Hst.out] at this
    simpa using this
  clear hL2 hb2 Hst
  have u1 : decide ((200 : Int) < (l.length : Int)) = false := decide_eq_false (by omega)
  have u1' : ¬ (200 : Int) < (l.length : Int) := by omega
  have u2 : decide ((200 : Int) < (m.length : Int)) = false := decide_eq_false (by omega)
  have u2' : ¬ (200 : Int) < (m.length : Int) := by omega
  have u3 : decide ((m.length : Int) = 0) = false := decide_eq_false (by omega)
  have u4 : ((m.length : Int) == 0) = false := by rw [beq_eq_false_iff_ne]; omega
  have u5 : (0 : Int) < (m.length : Int) := by omega
  have u6 : ¬ (m.length : Int) = 0 := by omega
  clear hi hz0 hz1 hz2
  go_enter Try.func4, Try.ntmps4
  go_wp2_with fail
  refine (HAl.out).mono ?_
  rintro e w1 ⟨rfl, n1⟩
  have HA1 := Lib.hid (hl1.on n1)
  clear HAl hl1
  go_wp2_with (first | (at_builtin; refine wpList_append_any rfl _ _ 22 rfl w1.heap.size 40 j0 (.agg #[.int .i64 0, .int .i64 0, .int .i64 0, .bool false, .int .i64 0, .int .i64 0]) 6 48 Try.underlying22 HI.out.1 HI.out.2.1 HI.out.2.2.1 HI.out.2.2.2 rfl (by decide) _ _ _ rfl (World.ownsRow_made w1 #[] 0 (Nat.le_refl _) (Nat.zero_le _) (by simp)) a1 l.length c1 (flatG verC l) rfl (by rw [flatG_len verC_len]) (fun h => gat_none HA1.out h) (gat_news verC_len (by decide) (HA1.out.on (aBelow w1 _))) (flatG_cells1 verC_one l) (by unfold maxLen; omega) (by omega) (by simp) ?_; intro vo w2 hown hgrow hnil))
  have n2 : Below w1.heap.size w1 w2 := ((Below.refl _ _).alloc (Nat.le_refl _) _).grown hgrow (by simp) (fun k hk => by cases hk; exact Nat.le_refl _)
  have d2 := n1.trans (n2.mono n1.size)
  have ro : VRow w2 vo l := ownG_row verC_len (by simpa using hown)
  have RO := Lib.hid (fun W (n : Below w2.heap.size w2 W) => ro.on n)
  have R1 := Lib.hid (fun W (n : Below w2.heap.size w2 W) => H1.out W (d2.trans (n.mono d2.size)))
  have R2 := Lib.hid (fun W (n : Below w2.heap.size w2 W) => H2.out W (d2.trans (n.mono d2.size)))
  obtain ⟨ao, co, rfl, _, _⟩ := ro
  clear hown hgrow hnil n2 HA1 H1 H2
  have m2 : Below w2.heap.size w2 w2 := Below.refl _ _
  obtain ⟨A1, HA1⟩ : ∃ A, Hid (putV l m = A) := ⟨_, rfl⟩
  obtain ⟨C1, HC1⟩ : ∃ C, Hid (foldV l st x = C) := ⟨_, rfl⟩
  have hA : A1.1.length ≤ 400 := by rw [← HA1.out]; have := putV_len l m; omega
  have hC : C1.1.length ≤ 400 := by rw [← HC1.out]; have := foldV_len l st x; omega
  have K1 := Lib.hid (fun W (n : Below w2.heap.size w2 W) => O.put _ _ l m W (RO.out W n) (R2.out W n) (by omega) (by omega))
  have K2 := Lib.hid (fun W (n : Below w2.heap.size w2 W) => refPut_any _ _ l m W (R1.out W n) (R2.out W n) (by omega) (by omega))
  have K3 := Lib.hid (fun W (n : Below w2.heap.size w2 W) => O.fold _ l st x W (RO.out W n) (by omega) ho hx)
  have K4 := Lib.hid (fun W (n : Below w2.heap.size w2 W) => refFoldV_any _ l st x W (R1.out W n) (by omega) ho hx)
  have K5 := Lib.hid (fun W u1 u2 (g1 : VRow W u1 A1.1) (g2 : VRow W u2 A1.1) => refSameV_any u1 u2 A1.1 A1.1 W g1 g2 (by omega))
  have K6 := Lib.hid (fun W u1 u2 (g1 : VRow W u1 C1.1) (g2 : VRow W u2 C1.1) => refSameV_any u1 u2 C1.1 C1.1 W g1 g2 (by omega))
  have K7 := Lib.hid (fun W (n : Below w2.heap.size w2 W) => refSameV_any _ _ l l W (RO.out W n) (R1.out W n) (by omega))
  rw [HA1.out] at K1 K2
  rw [HC1.out] at K3 K4
  rw [(sameV_true A1.1 A1.1).2 rfl] at K5
  rw [(sameV_true C1.1 C1.1).2 rfl] at K6
  rw [(sameV_true l l).2 rfl] at K7
  obtain ⟨A, E⟩ := A1
  obtain ⟨C, F⟩ := C1
  simp only at K1 K2 K3 K4 K5 K6 hA hC
  have q1 : (E == E) = true := by simp
  have q2 : (F == F) = true := by simp
  have G2 := Lib.hid (fun W (n : Below w2.heap.size w2 W) => HM2.out W (d2.trans (n.mono d2.size)))
  clear HA1 HC1 R1 R2 RO ho hx HM2
  go_wp2_with fail
  refine (K1.out w2 m2).mono ?_
  rintro e w3 ⟨⟨_, rfl, r3⟩, n3⟩
  have m3 := m2.trans (n3.mono m2.size)
  clear n3
  have S3 := Lib.hid (fun W (n : Below w3.heap.size w3 W) => r3.on n)
  obtain ⟨a3, c3, rfl, _, _⟩ := r3
  go_wp2_with fail
  refine (K2.out w3 m3).mono ?_
  rintro e w4 ⟨⟨_, rfl, r4⟩, n4⟩
  have m4 := m3.trans (n4.mono m3.size)
  have S3 := Lib.hid (fun W (n : Below w4.heap.size w4 W) => S3.out W (n4.trans (n.mono n4.size)))
  clear n4
  have S4 := Lib.hid (fun W (n : Below w4.heap.size w4 W) => r4.on n)
  obtain ⟨a4, c4, rfl, _, _⟩ := r4
  have f1 := G2.out w4 m4
  go_wp2_with fail
  refine (K3.out w4 m4).mono ?_
  rintro e w5 ⟨⟨_, rfl, r5⟩, n5⟩
  have m5 := m4.trans (n5.mono m4.size)
  have S3 := Lib.hid (fun W (n : Below w5.heap.size w5 W) => S3.out W (n5.trans (n.mono n5.size)))
  have S4 := Lib.hid (fun W (n : Below w5.heap.size w5 W) => S4.out W (n5.trans (n.mono n5.size)))
  clear n5
  have S5 := Lib.hid (fun W (n : Below w5.heap.size w5 W) => r5.on n)
  obtain ⟨a5, c5, rfl, _, _⟩ := r5
  clear f1
  have f1 := G2.out w5 m5
  go_wp2_with fail
  refine (K4.out w5 m5).mono ?_
  rintro e w6 ⟨⟨_, rfl, r6⟩, n6⟩
  have m6 := m5.trans (n6.mono m5.size)
  have S3 := Lib.hid (fun W (n : Below w6.heap.size w6 W) => S3.out W (n6.trans (n.mono n6.size)))
  have S4 := Lib.hid (fun W (n : Below w6.heap.size w6 W) => S4.out W (n6.trans (n.mono n6.size)))
  have S5 := Lib.hid (fun W (n : Below w6.heap.size w6 W) => S5.out W (n6.trans (n.mono n6.size)))
  clear n6
  have S6 := Lib.hid (fun W (n : Below w6.heap.size w6 W) => r6.on n)
  obtain ⟨a6, c6, rfl, _, _⟩ := r6
  clear f1
  go_wp2_with fail
  refine (K5.out _ _ _ (S3.out _ (Below.refl _ _)) (S4.out _ (Below.refl _ _))).mono ?_
  rintro e w7 ⟨rfl, n7⟩
  have m7 := m6.trans (n7.mono m6.size)
  have T5 := Lib.hid (S5.out _ n7)
  have T6 := Lib.hid (S6.out _ n7)
  clear n7
  go_wp2_with fail
  refine (K6.out _ _ _ T5.out T6.out).mono ?_
  rintro e w8 ⟨rfl, n8⟩
  have m8 := m7.trans (n8.mono m7.size)
  clear n8
  go_wp2_with fail
  refine (K7.out w8 m8).mono ?_
  rintro e w9 ⟨rfl, n9⟩
  have m9 := m8.trans (n9.mono m8.size)
  clear n9
  go_wp2_with fail
  go_ret
  exact ⟨rfl, d2.trans (m9.mono d2.size)⟩
/-- The law ChainPuts. -/
theorem puts_walk (O : Own10) (v1 v2 : Value) (l m : List Ver) (x : Int) (w : World) (h1 : VRow w v1 l) (h2 : VRow w v2 m) (ho : ∀ y ∈ l, okV y) (hx : ok64 x) :
    Calls Try.prog 4 #[v1, v2, .int .i64 x] w fun e w' => e = .returned (.bool true) ∧ Below w.heap.size w w' := by
  rcases Nat.lt_or_ge 200 l.length with hb | hb
  · exact puts_big1 O v1 v2 l m x w h1 h2 hb
  · rcases Nat.lt_or_ge 200 m.length with hc | hc
    · exact puts_big2 O v1 v2 l m x w h1 h2 hb hc
    · rcases Nat.eq_zero_or_pos m.length with hz | hz
      · exact puts_none O v1 v2 l m x w h1 h2 hb (List.length_eq_zero_iff.1 hz)
      · exact puts_ok O v1 v2 l m x w h1 h2 ho hx hb hc hz
end Go.Proofs.Ytecfjifipbabiaa.Ch
