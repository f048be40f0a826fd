/- The program's own answers are those of the plain functions: what stages' laws ask of them. -/
import Derived.Test.YtehgpibngalhfaaGreatDoorO5
import Derived.Test.YtehgpibngalhfaaGreatDoorO6
import Derived.Test.YtehgpibngalhfaaGreatDoorN9
namespace Go.Proofs.YtehgpibngalhfaaGreatDoor.Rw
open Go Go.RowKit Go.Sort Go.Lib Tg Pk Ky Qy Df

set_option maxRecDepth 100000 in
set_option maxHeartbeats 2000000 in
theorem equalC_any (v1 v2 : Value) (l m : List Chg) (w : World) (h1 : CRow w v1 l) (h2 : CRow w v2 m) (hn : l.length ≤ 1000000) :
    Calls Tryz.prog 39 #[v1, v2] w fun e w' => e = .returned (.bool (sameC l m)) ∧ Below w.heap.size w w' := by
  obtain ⟨a1, c1, rfl, _, hl1⟩ := h1
  obtain ⟨a2, c2, rfl, _, hl2⟩ := h2
  by_cases hlen : l.length = m.length
  · have HL1 := Lib.hid hl1
    have HL2 := Lib.hid hl2
    obtain ⟨F, HF⟩ : ∃ F, Hid (sameC l m = F) := ⟨_, rfl⟩
    rw [HF.out]
    have HLEN := Lib.hid hlen
    rw [← hlen]
    clear hl1 hl2 hlen
    go_enter Tryz.func39, Tryz.ntmps39
    go_wp2
    go_loopw [13] (fun i wr => ∃ k nq : Nat, k ≤ l.length ∧ i = .int .i64 k ∧ wr = w.drewN nq ∧ Hid (∀ j (h1 : j < l.length) (h2 : j < m.length), j < k → eqC l[j] m[j] = true)) (fun i _ => l.length - (intOf i).toNat)
    case atStart => exact ⟨0, 0, Nat.zero_le _, rfl, rfl, fun j _ _ hj => absurd hj (Nat.not_lt_zero j)⟩
    case round =>
      obtain ⟨k, nq, hk, rfl, rfl, HT⟩ := hrel
      by_cases hlt : k < l.length
      · have hlt2 : k < m.length := by have := HLEN.out; omega
        obtain ⟨b1, o1, rfl, hb1, L1⟩ := HL1.out (ne_of_lt hlt)
        obtain ⟨b2, o2, rfl, hb2, L2⟩ := HL2.out (ne_of_lt hlt2)
        obtain ⟨e1, e2, e3, e4, e5⟩ := c_at L1 k hlt
        obtain ⟨f1, f2, f3, f4, f5⟩ := c_at L2 k hlt2
        have i1 : (k : Int) < (l.length : Int) := by omega
        have i2 : (0 : Int) ≤ (k : Int) := by omega
        have HN : Hid (eqC l[k] m[k] = false → F = false) := fun h => (HF.out).symm.trans (same_notC hlt hlt2 h)
        have HY : Hid (eqC l[k] m[k] = true → ∀ j (h1 : j < l.length) (h2 : j < m.length), j < k + 1 → eqC l[j] m[j] = true) := fun h j g1 g2 g3 => by
          by_cases hj : j < k
          · exact HT.out j g1 g2 hj
          · have : j = k := by omega
            subst this; exact h
        have HE := Lib.hid (eq_partsC l[k] m[k] _ _ _ _ _ rfl rfl rfl rfl rfl)
        generalize l[k] = x at *
        generalize m[k] = y at *
        obtain ⟨⟨x1, x2, x3, x4⟩, x5⟩ := x
        obtain ⟨⟨y1, y2, y3, y4⟩, y5⟩ := y
        simp only at e1 f1 e2 f2 e3 f3 e4 f4 e5 f5 HE
        clear L1 L2 hb1 hb2 HL1 HL2 HT
        cases p1 : (x1 == y1)
        · have HV := Lib.hid (HN.out ((HE.out).trans (by simp only [p1, Bool.false_and])))
          clear HE HN HY
          go_wp2_with fail
          go_quiet (fail)
          go_wp2_with fail
          go_ret
          exact ⟨by first | (rw [HV.out]; done) | (rw [HV.out]; rfl), ⟨rfl, rfl, rfl, Nat.le_refl _, fun _ _ => rfl⟩⟩
        · cases p2 : (x2.toList == y2.toList)
          · have HV := Lib.hid (HN.out ((HE.out).trans (by simp only [p1, p2, Bool.and_false, Bool.false_and])))
            clear HE HN HY
            go_wp2_with fail
            go_quiet (fail)
            go_wp2_with fail
            go_ret
            exact ⟨by first | (rw [HV.out]; done) | (rw [HV.out]; rfl), ⟨rfl, rfl, rfl, Nat.le_refl _, fun _ _ => rfl⟩⟩
          · cases p3 : (x3 == y3)
            · have HV := Lib.hid (HN.out ((HE.out).trans (by simp only [p1, p2, p3, Bool.and_false, Bool.false_and])))
              clear HE HN HY
              go_wp2_with fail
              go_quiet (fail)
              go_wp2_with fail
              go_ret
              exact ⟨by first | (rw [HV.out]; done) | (rw [HV.out]; rfl), ⟨rfl, rfl, rfl, Nat.le_refl _, fun _ _ => rfl⟩⟩
            · cases p4 : (x4 == y4)
              · have HV := Lib.hid (HN.out ((HE.out).trans (by simp only [p1, p2, p3, p4, Bool.and_false, Bool.false_and])))
                clear HE HN HY
                go_wp2_with fail
                go_quiet (fail)
                go_wp2_with fail
                go_ret
                exact ⟨by first | (rw [HV.out]; done) | (rw [HV.out]; rfl), ⟨rfl, rfl, rfl, Nat.le_refl _, fun _ _ => rfl⟩⟩
              · cases p5 : (x5 == y5)
                · have HV := Lib.hid (HN.out ((HE.out).trans (by simp only [p1, p2, p3, p4, p5, Bool.and_false])))
                  clear HE HN HY
                  go_wp2_with fail
                  go_quiet (fail)
                  go_wp2_with fail
                  go_ret
                  exact ⟨by first | (rw [HV.out]; done) | (rw [HV.out]; rfl), ⟨rfl, rfl, rfl, Nat.le_refl _, fun _ _ => rfl⟩⟩
                · have HV := Lib.hid (HY.out ((HE.out).trans (by simp only [p1, p2, p3, p4, p5]; rfl)))
                  clear HE HN HY
                  go_wp2_with fail
                  go_quiet (fail)
                  go_wp2_with fail
                  exact ⟨⟨k + 1, _, by omega, by go_num, rfl, HV⟩, by simp [intOf]; omega⟩
      · have HM := Lib.hid ((HF.out).symm.trans (same_allC HLEN.out (fun j g1 g2 => HT.out j g1 g2 (by omega))))
        go_wp2_with fail
        go_ret
        exact ⟨by first | (rw [HM.out]; done) | (rw [HM.out]; rfl), ⟨rfl, rfl, rfl, Nat.le_refl _, fun _ _ => rfl⟩⟩
  · rw [same_lenC hlen]
    have hlz : ¬ (l.length : Int) = (m.length : Int) := by omega
    clear hl1 hl2
    go_enter Tryz.func39, Tryz.ntmps39
    go_wp2
    go_ret
    exact ⟨rfl, Below.refl _ _⟩

set_option maxRecDepth 100000 in
theorem sameC_any (v1 v2 : Value) (l m : List Chg) (w : World) (h1 : CRow w v1 l) (h2 : CRow w v2 m) (hn : l.length ≤ 1000000) :
    Calls Tryz.prog 19 #[v1, v2] w fun e w' => e = .returned (.bool (sameC l m)) ∧ Below w.heap.size w w' := by
  have HK := Lib.hid (equalC_any v1 v2 l m w h1 h2 hn)
  obtain ⟨a1, c1, rfl, _, _⟩ := h1
  obtain ⟨a2, c2, rfl, _, _⟩ := h2
  go_enter Tryz.func19, Tryz.ntmps19
  go_wp2_with fail
  refine (HK.out).mono ?_
  rintro e w2 ⟨rfl, n2⟩
  go_wp2_with fail
  go_ret
  exact ⟨rfl, n2⟩
theorem of_any (v1 v2 : Value) (a b : List Row) (w : World) (hE : Env w) (h1 : RRow w v1 a) (h2 : RRow w v2 b) (hn1 : a.length ≤ 400) (hn2 : b.length ≤ 400) (hs1 : ∀ x ∈ a, x.grp.size ≤ 900) (hs2 : ∀ x ∈ b, x.grp.size ≤ 900) :
    Calls Tryz.prog 10 #[v1, v2] w fun e w' => (∃ v', e = .returned (.tuple #[v', .int .i64 (ofE a b).2]) ∧ CRow w' v' (ofE a b).1) ∧ Below w.heap.size w w' := by
  cases ha : rright a
  · rw [ofE_left ha]
    refine (of_left v1 v2 a w hE h1 (by omega) hs1 ha).mono ?_
    rintro e w' ⟨rfl, n⟩
    exact ⟨⟨_, rfl, GRow.nil _⟩, n⟩
  · cases hb : rright b
    · rw [ofE_right hb]
      refine (of_right v1 v2 a b w hE h1 h2 (by omega) (by omega) hs1 hs2 ha hb).mono ?_
      rintro e w' ⟨rfl, n⟩
      exact ⟨⟨_, rfl, GRow.nil _⟩, n⟩
    · rw [ofE_ok ha hb, ← mergeD_of (up_rise.1 (rright_true.1 ha).2) (up_rise.1 (rright_true.1 hb).2)]
      exact of_ok v1 v2 a b w hE h1 h2 hn1 hn2 hs1 hs2 ha hb
theorem apply_any (v1 v2 : Value) (l : List Row) (cs : List Chg) (w : World) (hE : Env w) (h1 : RRow w v1 l) (h2 : CRow w v2 cs) (hn1 : l.length ≤ 400) (hn2 : cs.length ≤ 400) (hs1 : ∀ x ∈ l, x.grp.size ≤ 900) (hs2 : ∀ x ∈ cs, x.r.grp.size ≤ 900) :
    Calls Tryz.prog 17 #[v1, v2] w fun e w' => (∃ v', e = .returned (.tuple #[v', .int .i64 (applyE l cs).2]) ∧ RRow w' v' (applyE l cs).1) ∧ Below w.heap.size w w' := by
  cases ha : rright l
  · rw [applyE_left ha]
    refine (apply_left v1 v2 l w hE h1 (by omega) hs1 ha).mono ?_
    rintro e w' ⟨rfl, n⟩
    exact ⟨⟨_, rfl, GRow.nil _⟩, n⟩
  · cases hb : cright cs
    · rw [applyE_right hb]
      refine (apply_right v1 v2 l cs w hE h1 h2 (by omega) (by omega) hs1 hs2 ha hb).mono ?_
      rintro e w' ⟨rfl, n⟩
      exact ⟨⟨_, rfl, GRow.nil _⟩, n⟩
    · refine (apply_ok v1 v2 l cs w hE h1 h2 hn1 hn2 hs1 hs2 ha hb).mono ?_
      rintro e w' ⟨⟨m, v', hm, rfl, hr⟩ | ⟨hm, rfl⟩, n⟩
      · rw [applyE_some ha hb hm]
        exact ⟨⟨_, rfl, hr⟩, n⟩
      · rw [applyE_none ha hb hm]
        exact ⟨⟨_, rfl, GRow.nil _⟩, n⟩
/-- The program's own answers are those of the plain functions. -/
theorem own9 (B : Nat) : Own9 B where
  of := fun v1 v2 a b w hE _ h1 h2 n1 n2 s1 s2 _ _ => of_any v1 v2 a b w hE h1 h2 n1 n2 s1 s2
  apply := fun v1 v2 l cs w hE _ h1 h2 n1 n2 s1 s2 _ _ => apply_any v1 v2 l cs w hE h1 h2 n1 n2 s1 s2
  text := fun v l w hF h ho hn hs hj => ctext_any B v l w hF h ho hn hs hj
  parse := fun s w hE hF hs hp => cparse_any B s w hE hF hs hp
  same := sameC_any
end Go.Proofs.YtehgpibngalhfaaGreatDoor.Rw
