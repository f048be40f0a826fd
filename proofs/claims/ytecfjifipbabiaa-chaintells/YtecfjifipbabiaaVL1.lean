/- A walk of the law ChainTells. -/
import Derived.Test.YtecfjifipbabiaaV6
import Derived.Test.YtecfjifipbabiaaV7
namespace Go.Proofs.Ytecfjifipbabiaa.Ch
open Go Go.RowKit Go.Sort Go.Lib Cl Ce

set_option maxRecDepth 100000 in
set_option maxHeartbeats 1000000 in
theorem tells_big1 (O : Own10) (v1 v2 : Value) (l m : List Ver) (s : Int) (w : World) (h1 : VRow w v1 l) (h2 : VRow w v2 m) (hb : 200 < l.length) :
    Calls Try.prog 3 #[v1, v2, .int .i64 s] w fun e w' => e = .returned (.bool true) ∧ Below w.heap.size w w' := by
  have HAl := Lib.hid (alive_any O w)
  obtain ⟨a1, c1, rfl, _, _⟩ := h1
  obtain ⟨a2, c2, rfl, _, _⟩ := h2
  have u1 : decide ((200 : Int) < (l.length : Int)) = true := decide_eq_true (by omega)
  have u1' : (200 : Int) < (l.length : Int) := by omega
  go_enter Try.func3, Try.ntmps3
  go_wp2_with fail
  refine (HAl.out).mono ?_
  rintro e w1 ⟨rfl, n1⟩
  go_wp2_with fail
  go_ret
  exact ⟨rfl, n1⟩
set_option maxRecDepth 100000 in
set_option maxHeartbeats 1000000 in
theorem tells_big2 (O : Own10) (v1 v2 : Value) (l m : List Ver) (s : Int) (w : World) (h1 : VRow w v1 l) (h2 : VRow w v2 m) (hb1 : l.length ≤ 200) (hb : 200 < m.length) :
    Calls Try.prog 3 #[v1, v2, .int .i64 s] w fun e w' => e = .returned (.bool true) ∧ Below w.heap.size w w' := by
  have HAl := Lib.hid (alive_any O w)
  obtain ⟨a1, c1, rfl, _, _⟩ := h1
  obtain ⟨a2, c2, rfl, _, _⟩ := h2
  have u1 : decide ((200 : Int) < (l.length : Int)) = false := decide_eq_false (by omega)
  have u1' : ¬ (200 : Int) < (l.length : Int) := by omega
  have u2 : decide ((200 : Int) < (m.length : Int)) = true := decide_eq_true (by omega)
  have u2' : (200 : Int) < (m.length : Int) := by omega
  go_enter Try.func3, Try.ntmps3
  go_wp2_with fail
  refine (HAl.out).mono ?_
  rintro e w1 ⟨rfl, n1⟩
  go_wp2_with fail
  go_ret
  exact ⟨rfl, n1⟩
set_option maxRecDepth 100000 in
set_option maxHeartbeats 4000000 in
theorem tells_ok (O : Own10) (v1 v2 : Value) (l m : List Ver) (s : Int) (w : World) (h1 : VRow w v1 l) (h2 : VRow w v2 m) (hb1 : l.length ≤ 200) (hb2 : m.length ≤ 200) :
    Calls Try.prog 3 #[v1, v2, .int .i64 s] w fun e w' => e = .returned (.bool true) ∧ Below w.heap.size w w' := by
  have HAl := Lib.hid (alive_any O w)
  obtain ⟨j0, hi, hz0, hz1, hz2⟩ := info40
  have HI := Lib.hid (And.intro hi (And.intro hz0 (And.intro hz1 hz2)))
  have H1 := Lib.hid (fun W (n : Below w.heap.size w W) => h1.on n)
  have H2 := Lib.hid (fun W (n : Below w.heap.size w W) => h2.on n)
  obtain ⟨a1, c1, rfl, hc1, hl1⟩ := h1
  obtain ⟨a2, c2, rfl, _, _⟩ := h2
  have u1 : decide ((200 : Int) < (l.length : Int)) = false := decide_eq_false (by omega)
  have u1' : ¬ (200 : Int) < (l.length : Int) := by omega
  have u2 : decide ((200 : Int) < (m.length : Int)) = false := decide_eq_false (by omega)
  have u2' : ¬ (200 : Int) < (m.length : Int) := by omega
  clear hi hz0 hz1 hz2
  go_enter Try.func3, Try.ntmps3
  go_wp2_with fail
  refine (HAl.out).mono ?_
  rintro e w1 ⟨rfl, n1⟩
  have HA1 := Lib.hid (hl1.on n1)
  clear HAl hl1
  go_wp2_with (first | (at_builtin; refine wpList_append_any rfl _ _ 22 rfl w1.heap.size 40 j0 (.agg #[.int .i64 0, .int .i64 0, .int .i64 0, .bool false, .int .i64 0, .int .i64 0]) 6 48 Try.underlying22 HI.out.1 HI.out.2.1 HI.out.2.2.1 HI.out.2.2.2 rfl (by decide) _ _ _ rfl (World.ownsRow_made w1 #[] 0 (Nat.le_refl _) (Nat.zero_le _) (by simp)) a1 l.length c1 (flatG verC l) rfl (by rw [flatG_len verC_len]) (fun h => gat_none HA1.out h) (gat_news verC_len (by decide) (HA1.out.on (aBelow w1 _))) (flatG_cells1 verC_one l) (by unfold maxLen; omega) (by omega) (by simp) ?_; intro vo w2 hown hgrow hnil))
  have n2 : Below w1.heap.size w1 w2 := ((Below.refl _ _).alloc (Nat.le_refl _) _).grown hgrow (by simp) (fun k hk => by cases hk; exact Nat.le_refl _)
  have d2 := n1.trans (n2.mono n1.size)
  have ro : VRow w2 vo l := ownG_row verC_len (by simpa using hown)
  have RO := Lib.hid (fun W (n : Below w2.heap.size w2 W) => ro.on n)
  have R1 := Lib.hid (fun W (n : Below w2.heap.size w2 W) => H1.out W (d2.trans (n.mono d2.size)))
  have R2 := Lib.hid (fun W (n : Below w2.heap.size w2 W) => H2.out W (d2.trans (n.mono d2.size)))
  obtain ⟨ao, co, rfl, _, _⟩ := ro
  clear hown hgrow hnil n2 HA1 H1 H2
  have m2 : Below w2.heap.size w2 w2 := Below.refl _ _
  obtain ⟨B1, HB1⟩ : ∃ B, Hid (vright l = B) := ⟨_, rfl⟩
  obtain ⟨C1, HC1⟩ : ∃ C, Hid (atS l s = C) := ⟨_, rfl⟩
  obtain ⟨L1, HL1⟩ : ∃ L, Hid (lastS l = L) := ⟨_, rfl⟩
  obtain ⟨B2, HB2⟩ : ∃ B, Hid (sameV l m = B) := ⟨_, rfl⟩
  obtain ⟨P1, HP1⟩ : ∃ P, Hid (prune l s = P) := ⟨_, rfl⟩
  have hP : P1.length ≤ 200 := by rw [← HP1.out]; have := prune_len l s; omega
  have K1 := Lib.hid (fun W (n : Below w2.heap.size w2 W) => O.right _ l W (RO.out W n) (by omega))
  have K2 := Lib.hid (fun W (n : Below w2.heap.size w2 W) => refRightV_any _ l W (R1.out W n) (by omega))
  have K3 := Lib.hid (fun W (n : Below w2.heap.size w2 W) => O.at' _ l s W (RO.out W n) (by omega))
  have K4 := Lib.hid (fun W (n : Below w2.heap.size w2 W) => refAt_any _ l s W (R1.out W n) (by omega))
  have K5 := Lib.hid (fun W (n : Below w2.heap.size w2 W) => O.last _ l W (RO.out W n) (by omega))
  have K6 := Lib.hid (fun W (n : Below w2.heap.size w2 W) => refLast_any _ l W (R1.out W n) (by omega))
  have K7 := Lib.hid (fun W (n : Below w2.heap.size w2 W) => O.prune _ l s W (RO.out W n) (by omega))
  have K8 := Lib.hid (fun W (n : Below w2.heap.size w2 W) => refPrune_any _ l s W (R1.out W n) (by omega))
  have K9 := Lib.hid (fun W u1 u2 (g1 : VRow W u1 P1) (g2 : VRow W u2 P1) => refSameV_any u1 u2 P1 P1 W g1 g2 (by omega))
  have KA := Lib.hid (fun W (n : Below w2.heap.size w2 W) => O.same _ _ l m W (RO.out W n) (R2.out W n) (by omega))
  have KB := Lib.hid (fun W (n : Below w2.heap.size w2 W) => refSameV_any _ _ l m W (R1.out W n) (R2.out W n) (by omega))
  have KC := Lib.hid (fun W (n : Below w2.heap.size w2 W) => refSameV_any _ _ l l W (RO.out W n) (R1.out W n) (by omega))
  rw [HB1.out] at K1 K2
  rw [HC1.out] at K3 K4
  rw [HL1.out] at K5 K6
  rw [HP1.out] at K7 K8
  rw [HB2.out] at KA KB
  rw [(sameV_true P1 P1).2 rfl] at K9
  rw [(sameV_true l l).2 rfl] at KC
  obtain ⟨x1, x2, x3, x4, x5⟩ := C1
  unfold celV at K3 K4
  simp only at K3 K4
  have q1 : (B1 == B1) = true := by simp
  have q2 : (B2 == B2) = true := by simp
  have q3 : (x1 == x1) = true := by simp
  have q4 : (x2 == x2) = true := by simp
  have q5 : (x3 == x3) = true := by simp
  have q6 : (x4 == x4) = true := by simp
  have q7 : (x5 == x5) = true := by simp
  have q8 : (L1 == L1) = true := by simp
  clear HB1 HC1 HL1 HB2 HP1 R1 R2 RO
  go_wp2_with fail
  refine (K1.out w2 m2).mono ?_
  rintro e w3 ⟨rfl, n3⟩
  have m3 := m2.trans (n3.mono m2.size)
  clear n3
  go_wp2_with fail
  refine (K2.out w3 m3).mono ?_
  rintro e w4 ⟨rfl, n4⟩
  have m4 := m3.trans (n4.mono m3.size)
  clear n4
  go_wp2_with fail
  refine (K3.out w4 m4).mono ?_
  rintro e w5 ⟨rfl, n5⟩
  have m5 := m4.trans (n5.mono m4.size)
  clear n5
  go_wp2_with fail
  refine (K4.out w5 m5).mono ?_
  rintro e w6 ⟨rfl, n6⟩
  have m6 := m5.trans (n6.mono m5.size)
  clear n6
  go_wp2_with fail
  refine (K5.out w6 m6).mono ?_
  rintro e w7 ⟨rfl, n7⟩
  have m7 := m6.trans (n7.mono m6.size)
  clear n7
  go_wp2_with fail
  refine (K6.out w7 m7).mono ?_
  rintro e we ⟨rfl, hwe⟩
  have hwe := hwe.symm
  subst hwe
  go_wp2_with fail
  refine (K7.out w7 m7).mono ?_
  rintro e w8 ⟨⟨_, rfl, r8⟩, n8⟩
  have m8 := m7.trans (n8.mono m7.size)
  clear n8
  have S8 := Lib.hid (fun W (n : Below w8.heap.size w8 W) => r8.on n)
  obtain ⟨a8, c8, rfl, _, _⟩ := r8
  go_wp2_with fail
  refine (K8.out w8 m8).mono ?_
  rintro e w9 ⟨⟨_, rfl, r9⟩, n9⟩
  have F9 := Lib.hid (S8.out _ n9)
  have m9 := m8.trans (n9.mono m8.size)
  clear n9
  have S9 := Lib.hid (fun W (n : Below w9.heap.size w9 W) => r9.on n)
  obtain ⟨a9, c9, rfl, _, _⟩ := r9
  go_wp2_with fail
  refine (K9.out _ _ _ F9.out (S9.out _ (Below.refl _ _))).mono ?_
  rintro e w10 ⟨rfl, n10⟩
  have m10 := m9.trans (n10.mono m9.size)
  clear n10
  go_wp2_with fail
  refine (KA.out w10 m10).mono ?_
  rintro e w11 ⟨rfl, n11⟩
  have m11 := m10.trans (n11.mono m10.size)
  clear n11
  go_wp2_with fail
  refine (KB.out w11 m11).mono ?_
  rintro e w12 ⟨rfl, n12⟩
  have m12 := m11.trans (n12.mono m11.size)
  clear n12
  go_wp2_with fail
  refine (KC.out w12 m12).mono ?_
  rintro e w13 ⟨rfl, n13⟩
  have m13 := m12.trans (n13.mono m12.size)
  clear n13
  go_wp2_with fail
  go_ret
  exact ⟨rfl, d2.trans (m13.mono d2.size)⟩
/-- The law ChainTells. -/
theorem tells_walk (O : Own10) (v1 v2 : Value) (l m : List Ver) (s : Int) (w : World) (h1 : VRow w v1 l) (h2 : VRow w v2 m) :
    Calls Try.prog 3 #[v1, v2, .int .i64 s] w fun e w' => e = .returned (.bool true) ∧ Below w.heap.size w w' := by
  rcases Nat.lt_or_ge 200 l.length with hb | hb
  · exact tells_big1 O v1 v2 l m s w h1 h2 hb
  · rcases Nat.lt_or_ge 200 m.length with hc | hc
    · exact tells_big2 O v1 v2 l m s w h1 h2 hb hc
    · exact tells_ok O v1 v2 l m s w h1 h2 hb hc
end Go.Proofs.Ytecfjifipbabiaa.Ch
