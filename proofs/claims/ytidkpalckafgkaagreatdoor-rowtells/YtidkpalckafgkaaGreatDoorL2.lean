/- Walks: the law RowTells. -/
import Derived.Test.YtidkpalckafgkaaGreatDoorAL
namespace Go.Proofs.YtidkpalckafgkaaGreatDoor.Rw
open Go Go.RowKit Go.Sort Go.Lib Tg Pk Ky Qy

theorem tw_on {b1 o1 b2 o2 : Nat} {x y : Row} {w : World} {B : Nat} {w1 w2 : World} (h : w1.cell? ⟨b1, o1, none⟩ = some (.int .i64 x.win) ∧ w1.cell? ⟨b1, o1 + 1, none⟩ = some (.string x.grp) ∧ w1.cell? ⟨b1, o1 + 2, none⟩ = some (.int .i64 x.n) ∧ w1.cell? ⟨b1, o1 + 3, none⟩ = some (.bool x.ov) ∧ w1.cell? ⟨b2, o2, none⟩ = some (.int .i64 y.win) ∧ w1.cell? ⟨b2, o2 + 1, none⟩ = some (.string y.grp) ∧ w1.cell? ⟨b2, o2 + 2, none⟩ = some (.int .i64 y.n) ∧ w1.cell? ⟨b2, o2 + 3, none⟩ = some (.bool y.ov) ∧ Below B w w1) (hB : B ≤ w1.heap.size) (n : Below w1.heap.size w1 w2) :
    w2.cell? ⟨b1, o1, none⟩ = some (.int .i64 x.win) ∧ w2.cell? ⟨b1, o1 + 1, none⟩ = some (.string x.grp) ∧ w2.cell? ⟨b1, o1 + 2, none⟩ = some (.int .i64 x.n) ∧ w2.cell? ⟨b1, o1 + 3, none⟩ = some (.bool x.ov) ∧ w2.cell? ⟨b2, o2, none⟩ = some (.int .i64 y.win) ∧ w2.cell? ⟨b2, o2 + 1, none⟩ = some (.string y.grp) ∧ w2.cell? ⟨b2, o2 + 2, none⟩ = some (.int .i64 y.n) ∧ w2.cell? ⟨b2, o2 + 3, none⟩ = some (.bool y.ov) ∧ Below B w w2 := by
  have k := (Keeps.refl w1).on n
  exact ⟨k.2 _ _ h.1, k.2 _ _ h.2.1, k.2 _ _ h.2.2.1, k.2 _ _ h.2.2.2.1, k.2 _ _ h.2.2.2.2.1, k.2 _ _ h.2.2.2.2.2.1, k.2 _ _ h.2.2.2.2.2.2.1, k.2 _ _ h.2.2.2.2.2.2.2.1, h.2.2.2.2.2.2.2.2.trans (n.mono hB)⟩
theorem tw_b {b1 o1 b2 o2 : Nat} {x y : Row} {w : World} {B : Nat} {w1 : World} (h : w1.cell? ⟨b1, o1, none⟩ = some (.int .i64 x.win) ∧ w1.cell? ⟨b1, o1 + 1, none⟩ = some (.string x.grp) ∧ w1.cell? ⟨b1, o1 + 2, none⟩ = some (.int .i64 x.n) ∧ w1.cell? ⟨b1, o1 + 3, none⟩ = some (.bool x.ov) ∧ w1.cell? ⟨b2, o2, none⟩ = some (.int .i64 y.win) ∧ w1.cell? ⟨b2, o2 + 1, none⟩ = some (.string y.grp) ∧ w1.cell? ⟨b2, o2 + 2, none⟩ = some (.int .i64 y.n) ∧ w1.cell? ⟨b2, o2 + 3, none⟩ = some (.bool y.ov) ∧ Below B w w1) : Below B w w1 := h.2.2.2.2.2.2.2.2

set_option maxRecDepth 100000 in
set_option maxHeartbeats 2000000 in
theorem tells_walk (B : Nat) (v1 v2 : Value) (l m : List Row) (w : World) (hE : Env w) (hF : St.Env B w) (h1 : RRow w v1 l) (h2 : RRow w v2 m) (o1 : ∀ r ∈ l, okR r) (z1 : ∀ r ∈ l, r.grp.size ≤ 281474976710656) (z2 : ∀ r ∈ m, r.grp.size ≤ 281474976710656) :
    Calls Tryz.prog 3 #[v1, v2] w fun e w' => e = .returned (.bool true) ∧ Below w.heap.size w w' := by
  have HA := Lib.hid (alive_any B w hE hF)
  have G1 := Lib.hid (fun W (d : Below w.heap.size w W) => greatR_any v1 l W (h1.on d) z1)
  have G2 := Lib.hid (fun W (d : Below w.heap.size w W) => greatR_any v2 m W (h2.on d) z2)
  clear z1 z2
  cases hg1 : greatR l
  · cases hg2 : greatR m
    · obtain ⟨n1, s1⟩ := greatR_not hg1
      obtain ⟨n2, s2⟩ := greatR_not hg2
      rw [hg1] at G1
      rw [hg2] at G2
      have hj : (rtextB l).size ≤ 140737488355328 := by
        have h3 := rtextB_size 300 o1 s1
        have : l.length * (300 + 51) ≤ 100 * (300 + 51) := Nat.mul_le_mul_right _ n1
        omega
      have s1' : ∀ r ∈ l, r.grp.size ≤ 900 := fun r hr => by have := s1 r hr; omega
      have s1'' : ∀ r ∈ l, r.grp.size ≤ 100000 := fun r hr => by have := s1 r hr; omega
      have R1 := Lib.hid (fun W (d : Below w.heap.size w W) => rright_any v1 l W (h1.on d) (hE.go d) (by omega) s1')
      have R2 := Lib.hid (fun W (d : Below w.heap.size w W) => refRright_any v1 l W (h1.on d) (by omega) s1')
      have T1 := Lib.hid (fun W (d : Below w.heap.size w W) => rtext_any B v1 l W (h1.on d) (hF.go d) o1 (by omega) s1'' hj)
      have T2 := Lib.hid (fun W (d : Below w.heap.size w W) => refRtext_any v1 l W (h1.on d) o1 (by omega) s1'' hj)
      have S1 := Lib.hid (fun W (d : Below w.heap.size w W) => same_any v1 v2 l m W (h1.on d) (h2.on d) (by omega))
      have S2 := Lib.hid (fun W (d : Below w.heap.size w W) => refSame_any v1 v2 l m W (h1.on d) (h2.on d) (by omega))
      clear s1 s1' s1'' s2 hj o1 hg1 hg2 hF hE
      generalize rright l = p1 at *
      generalize rtextB l = t1 at *
      generalize sameR l m = p2 at *
      have q1 : (p1 == p1) = true := by simp
      have q2 : (p2 == p2) = true := by simp
      have q3 : (t1.toList == t1.toList) = true := by simp
      have L1 := Lib.hid h1
      have L2 := Lib.hid h2
      obtain ⟨a, c, rfl, hc1, hl1⟩ := h1
      obtain ⟨a', c', rfl, hc2, hl2⟩ := h2
      have HL1 := Lib.hid hl1
      have HL2 := Lib.hid hl2
      clear hl1 hl2
      by_cases e1 : l = []
      · have kk1 : ¬ 0 < l.length := by rw [e1]; simp
        have k1 : decide (0 < l.length) = false := decide_eq_false kk1
        clear kk1
        clear HL1 HL2 e1
        go_enter Tryz.func3, Tryz.ntmps3
        go_wp2_with (first | (go_at_call 9; refine (HA.out).mono ?_; rintro e w1 ⟨rfl, d1⟩))
        refine (G1.out w1 d1).mono ?_
        rintro e w2 ⟨rfl, rfl⟩
        go_wp2_with fail
        refine (G2.out w2 d1).mono ?_
        rintro e w3 ⟨rfl, rfl⟩
        clear HA G1 G2
        go_wp2_with fail
        go_quiet (fail)
        have dd := below_drewN d1 nq
        clear d1
        go_wp2_with fail
        refine (R1.out _ dd).mono ?_
        rintro e wb ⟨rfl, nb⟩
        have dd := dd.trans (nb.mono dd.size)
        clear nb R1
        go_wp2_with fail
        refine (R2.out _ dd).mono ?_
        rintro e wb ⟨rfl, nb⟩
        have dd := dd.trans (nb.mono dd.size)
        clear nb R2
        go_wp2_with fail
        refine (T1.out _ dd).mono ?_
        rintro e wb ⟨rfl, nb⟩
        have dd := dd.trans (nb.mono dd.size)
        clear nb T1
        go_wp2_with fail
        refine (T2.out _ dd).mono ?_
        rintro e wb ⟨rfl, nb⟩
        have dd := dd.trans (nb.mono dd.size)
        clear nb T2
        go_wp2_with fail
        refine (S1.out _ dd).mono ?_
        rintro e wb ⟨rfl, nb⟩
        have dd := dd.trans (nb.mono dd.size)
        clear nb S1
        go_wp2_with fail
        refine (S2.out _ dd).mono ?_
        rintro e wb ⟨rfl, nb⟩
        have dd := dd.trans (nb.mono dd.size)
        clear nb S2
        go_wp2_with fail
        go_ret
        exact ⟨rfl, dd⟩
      · have hz1 : (0 : Int) < (l.length : Int) := by have := List.length_pos_iff.2 e1; omega
        have kk1 : 0 < l.length := List.length_pos_iff.2 e1
        have k1 : decide (0 < l.length) = true := decide_eq_true kk1
        by_cases e2 : m = []
        · have kk2 : ¬ 0 < m.length := by rw [e2]; simp
          have k2 : decide (0 < m.length) = false := decide_eq_false kk2
          clear kk2 e2
          clear HL1 HL2 e1
          go_enter Tryz.func3, Tryz.ntmps3
          go_wp2_with (first | (go_at_call 9; refine (HA.out).mono ?_; rintro e w1 ⟨rfl, d1⟩))
          refine (G1.out w1 d1).mono ?_
          rintro e w2 ⟨rfl, rfl⟩
          go_wp2_with fail
          refine (G2.out w2 d1).mono ?_
          rintro e w3 ⟨rfl, rfl⟩
          clear HA G1 G2
          go_wp2_with fail
          go_quiet (fail)
          have dd := below_drewN d1 nq
          clear d1
          go_wp2_with fail
          refine (R1.out _ dd).mono ?_
          rintro e wb ⟨rfl, nb⟩
          have dd := dd.trans (nb.mono dd.size)
          clear nb R1
          go_wp2_with fail
          refine (R2.out _ dd).mono ?_
          rintro e wb ⟨rfl, nb⟩
          have dd := dd.trans (nb.mono dd.size)
          clear nb R2
          go_wp2_with fail
          refine (T1.out _ dd).mono ?_
          rintro e wb ⟨rfl, nb⟩
          have dd := dd.trans (nb.mono dd.size)
          clear nb T1
          go_wp2_with fail
          refine (T2.out _ dd).mono ?_
          rintro e wb ⟨rfl, nb⟩
          have dd := dd.trans (nb.mono dd.size)
          clear nb T2
          go_wp2_with fail
          refine (S1.out _ dd).mono ?_
          rintro e wb ⟨rfl, nb⟩
          have dd := dd.trans (nb.mono dd.size)
          clear nb S1
          go_wp2_with fail
          refine (S2.out _ dd).mono ?_
          rintro e wb ⟨rfl, nb⟩
          have dd := dd.trans (nb.mono dd.size)
          clear nb S2
          go_wp2_with fail
          go_ret
          exact ⟨rfl, dd⟩
        · have hz2 : (0 : Int) < (m.length : Int) := by have := List.length_pos_iff.2 e2; omega
          have kk2 : 0 < m.length := List.length_pos_iff.2 e2
          have k2 : decide (0 < m.length) = true := decide_eq_true kk2
          obtain ⟨b1, o1, rfl, hb1, hL1⟩ := HL1.out e1
          obtain ⟨b2, o2, rfl, hb2, hL2⟩ := HL2.out e2
          go_enter Tryz.func3, Tryz.ntmps3
          go_wp2_with (first | (go_at_call 9; refine (HA.out).mono ?_; rintro e w1 ⟨rfl, d1⟩))
          refine (G1.out w1 d1).mono ?_
          rintro e w2 ⟨rfl, rfl⟩
          go_wp2_with fail
          refine (G2.out w2 d1).mono ?_
          rintro e w3 ⟨rfl, rfl⟩
          clear HA G1 G2
          obtain ⟨f0, f1, f2, f3⟩ := r_at (hL1.on hb1 d1) 0 (List.length_pos_iff.2 e1)
          obtain ⟨g0, g1, g2, g3⟩ := r_at (hL2.on hb2 d1) 0 (List.length_pos_iff.2 e2)
          simp only [Nat.zero_mul, Nat.add_zero] at f0 f1 f2 f3 g0 g1 g2 g3
          generalize l[0]'(List.length_pos_iff.2 e1) = x at *
          generalize m[0]'(List.length_pos_iff.2 e2) = y at *
          clear hL1 hL2 e1 e2 HL1 HL2
          have BF := Lib.hid (fun W => before_any x y W)
          have BG := Lib.hid (fun W => refBefore_any x y W)
          unfold rowC at BF BG
          simp only [List.toArray] at BF BG
          generalize rlt x y = p3 at *
          have q4 : (p3 != p3) = false := by simp
          have q5 : (p3 == p3) = true := by simp
          have hS : w3.drew.cell? ⟨b1, o1, none⟩ = some (.int .i64 x.win) ∧ w3.drew.cell? ⟨b1, o1 + 1, none⟩ = some (.string x.grp) ∧ w3.drew.cell? ⟨b1, o1 + 2, none⟩ = some (.int .i64 x.n) ∧ w3.drew.cell? ⟨b1, o1 + 3, none⟩ = some (.bool x.ov) ∧ w3.drew.cell? ⟨b2, o2, none⟩ = some (.int .i64 y.win) ∧ w3.drew.cell? ⟨b2, o2 + 1, none⟩ = some (.string y.grp) ∧ w3.drew.cell? ⟨b2, o2 + 2, none⟩ = some (.int .i64 y.n) ∧ w3.drew.cell? ⟨b2, o2 + 3, none⟩ = some (.bool y.ov) ∧ Below w.heap.size w w3.drew := ⟨f0, f1, f2, f3, g0, g1, g2, g3, d1.drew⟩
          clear f0 f1 f2 f3 g0 g1 g2 g3
          go_wp2_with fail
          go_region_held3 (fun w' => w'.cell? ⟨b1, o1, none⟩ = some (.int .i64 x.win) ∧ w'.cell? ⟨b1, o1 + 1, none⟩ = some (.string x.grp) ∧ w'.cell? ⟨b1, o1 + 2, none⟩ = some (.int .i64 x.n) ∧ w'.cell? ⟨b1, o1 + 3, none⟩ = some (.bool x.ov) ∧ w'.cell? ⟨b2, o2, none⟩ = some (.int .i64 y.win) ∧ w'.cell? ⟨b2, o2 + 1, none⟩ = some (.string y.grp) ∧ w'.cell? ⟨b2, o2 + 2, none⟩ = some (.int .i64 y.n) ∧ w'.cell? ⟨b2, o2 + 3, none⟩ = some (.bool y.ov) ∧ Below w.heap.size w w') (first | assumption)
            (first
              | (go_at_call 11; refine (BF.out _).mono ?_; rintro e wa ⟨rfl, na⟩; have hSa := tw_on (by assumption) (tw_b (by assumption)).size na.below; clear na)
              | (go_at_call 12; refine (BG.out _).mono ?_; rintro e wa ⟨rfl, na⟩; have hSa := tw_on (by assumption) (tw_b (by assumption)).size na.below; clear na)
              | fail)
          have dd := tw_b hSa
          clear hS BF BG hSa
          go_wp2_with fail
          refine (R1.out _ dd).mono ?_
          rintro e wb ⟨rfl, nb⟩
          have dd := dd.trans (nb.mono dd.size)
          clear nb R1
          go_wp2_with fail
          refine (R2.out _ dd).mono ?_
          rintro e wb ⟨rfl, nb⟩
          have dd := dd.trans (nb.mono dd.size)
          clear nb R2
          go_wp2_with fail
          refine (T1.out _ dd).mono ?_
          rintro e wb ⟨rfl, nb⟩
          have dd := dd.trans (nb.mono dd.size)
          clear nb T1
          go_wp2_with fail
          refine (T2.out _ dd).mono ?_
          rintro e wb ⟨rfl, nb⟩
          have dd := dd.trans (nb.mono dd.size)
          clear nb T2
          go_wp2_with fail
          refine (S1.out _ dd).mono ?_
          rintro e wb ⟨rfl, nb⟩
          have dd := dd.trans (nb.mono dd.size)
          clear nb S1
          go_wp2_with fail
          refine (S2.out _ dd).mono ?_
          rintro e wb ⟨rfl, nb⟩
          have dd := dd.trans (nb.mono dd.size)
          clear nb S2
          go_wp2_with fail
          go_ret
          exact ⟨rfl, dd⟩
    · rw [hg1] at G1
      rw [hg2] at G2
      clear hg1 hg2 o1 hE hF
      obtain ⟨a, c, rfl, hc1, hl1⟩ := h1
      obtain ⟨a', c', rfl, hc2, hl2⟩ := h2
      clear hl1 hl2
      go_enter Tryz.func3, Tryz.ntmps3
      go_wp2_with (first | (go_at_call 9; refine (HA.out).mono ?_; rintro e w1 ⟨rfl, d1⟩))
      refine (G1.out w1 d1).mono ?_
      rintro e w2 ⟨rfl, rfl⟩
      go_wp2_with fail
      refine (G2.out w2 d1).mono ?_
      rintro e w3 ⟨rfl, rfl⟩
      go_wp2_with fail
      go_ret
      exact ⟨rfl, d1⟩
  · rw [hg1] at G1
    clear hg1 o1 hE hF G2
    obtain ⟨a, c, rfl, hc1, hl1⟩ := h1
    obtain ⟨a', c', rfl, hc2, hl2⟩ := h2
    clear hl1 hl2
    go_enter Tryz.func3, Tryz.ntmps3
    go_wp2_with (first | (go_at_call 9; refine (HA.out).mono ?_; rintro e w1 ⟨rfl, d1⟩))
    refine (G1.out w1 d1).mono ?_
    rintro e w2 ⟨rfl, rfl⟩
    go_wp2_with fail
    go_ret
    exact ⟨rfl, d1⟩

end Go.Proofs.YtidkpalckafgkaaGreatDoor.Rw
