/- Rows: ahead, rising, the same, too many: walks of both. -/
import Derived.Test.YtehgpibngalhfaaGreatDoorD1
namespace Go.Proofs.YtehgpibngalhfaaGreatDoor.Rw
open Go Go.RowKit Go.Sort Go.Lib Tg Pk Ky Qy

set_option maxRecDepth 100000 in
set_option maxHeartbeats 1000000 in
theorem before_any (a b : Row) (W : World) : Calls Tryz.prog 37 #[.agg (rowC a).toArray, .agg (rowC b).toArray] W fun e w' => e = .returned (.bool (rlt a b)) ∧ Gw W w' := by
  rw [← rcf_lt]
  have H := fun w => compare_any a b w
  generalize rcf a b = C at *
  obtain ⟨aw, ag, an, ao⟩ := a
  obtain ⟨bw, bg, bn, bo⟩ := b
  have H2 : Hid (∀ w, Calls Tryz.prog 55 #[.agg #[.int .i64 aw, .string ag, .int .i64 an, .bool ao], .agg #[.int .i64 bw, .string bg, .int .i64 bn, .bool bo]] w fun e w' => e = .returned (.int .i64 C) ∧ ∃ q os, w' = grow (w.drewN q) os) := H
  clear H
  show Calls Tryz.prog 37 #[.agg #[.int .i64 aw, .string ag, .int .i64 an, .bool ao], .agg #[.int .i64 bw, .string bg, .int .i64 bn, .bool bo]] W _
  go_enter Tryz.func37, Tryz.ntmps37
  go_wp2_with fail
  have g0 : Gw W ((W.alloc (.cells #[.int .i64 aw, .string ag, .int .i64 an, .bool ao] 45)).alloc (.cells #[.int .i64 bw, .string bg, .int .i64 bn, .bool bo] 45)) := ((Gw.refl W).alloc _).alloc _
  refine (H2.out _).mono ?_
  rintro e w1 ⟨rfl, g1⟩
  have g2 := g0.trans g1
  clear g0 g1 H2
  go_wp2
  go_ret
  exact ⟨rfl, g2⟩

set_option maxRecDepth 100000 in
set_option maxHeartbeats 1000000 in
theorem refBefore_any (a b : Row) (W : World) : Calls Tryz.prog 38 #[.agg (rowC a).toArray, .agg (rowC b).toArray] W fun e w' => e = .returned (.bool (rlt a b)) ∧ Gw W w' := by
  obtain ⟨aw, ag, an, ao⟩ := a
  obtain ⟨bw, bg, bn, bo⟩ := b
  show Calls Tryz.prog 38 #[.agg #[.int .i64 aw, .string ag, .int .i64 an, .bool ao], .agg #[.int .i64 bw, .string bg, .int .i64 bn, .bool bo]] W (fun e w' => e = .returned (.bool (plt aw ag bw bg)) ∧ Gw W w')
  have g0 : Hid (Gw W ((W.alloc (.cells #[.int .i64 aw, .string ag, .int .i64 an, .bool ao] 45)).alloc (.cells #[.int .i64 bw, .string bg, .int .i64 bn, .bool bo] 45))) := ((Gw.refl W).alloc _).alloc _
  by_cases h : aw < bw
  · rw [show plt aw ag bw bg = true by unfold plt; simp [h]]
    have hd : decide (aw < bw) = true := decide_eq_true h
    go_enter Tryz.func38, Tryz.ntmps38
    go_wp2
    go_ret
    exact ⟨by first | rfl | simp [hd], g0.out⟩
  · have hd : decide (aw < bw) = false := decide_eq_false h
    by_cases h' : aw = bw
    · rw [show plt aw ag bw bg = less ag.data.toList bg.data.toList by unfold plt; simp [h']]
      have hb : (aw == bw) = true := by simp [h']
      have hl : Op.bytesLess ag.toList bg.toList = less ag.data.toList bg.data.toList := by rw [ByteArray.toList_eq, ByteArray.toList_eq]
      generalize less ag.data.toList bg.data.toList = A at *
      subst h'
      go_enter Tryz.func38, Tryz.ntmps38
      go_wp2
      go_ret
      exact ⟨by first | rfl | (simp; exact hl) | (simp [hl]), g0.out⟩
    · rw [show plt aw ag bw bg = false by unfold plt; simp [h, h']]
      have hb : (aw == bw) = false := by simp [h']
      go_enter Tryz.func38, Tryz.ntmps38
      go_wp2
      go_ret
      exact ⟨by first | rfl | simp [hd], g0.out⟩

theorem same_lenR {l m : List Row} (h : ¬ l.length = m.length) : sameR l m = false := by
  unfold sameR; rw [decide_eq_false h]; rfl
theorem same_notR {l m : List Row} {k : Nat} (h1 : k < l.length) (h2 : k < m.length) (h : eqR l[k] m[k] = false) : sameR l m = false := by
  cases hc : sameR l m
  · rfl
  · have e := (sameR_true l m).1 hc
    subst e
    rw [(eqR_true _ _).2 rfl] at h; cases h
theorem same_allR {l m : List Row} (hl : l.length = m.length) (h : ∀ j (h1 : j < l.length) (h2 : j < m.length), eqR l[j] m[j] = true) : sameR l m = true := by
  rw [sameR_true]
  exact List.ext_getElem hl (fun i h1 h2 => (eqR_true _ _).1 (h i h1 h2))
theorem eq_partsR (x y : Row) (p1 p2 p3 p4 : Bool) (h1 : (x.win == y.win) = p1) (h2 : (x.grp.toList == y.grp.toList) = p2) (h3 : (x.n == y.n) = p3) (h4 : (x.ov == y.ov) = p4) : eqR x y = (p1 && p2 && p3 && p4) := by
  unfold eqR
  rw [← h1, ← h2, ← h3, ← h4, beq_ba]
  rfl
set_option maxRecDepth 100000 in
set_option maxHeartbeats 2000000 in
theorem refSame_any (v1 v2 : Value) (l m : List Row) (w : World) (h1 : RRow w v1 l) (h2 : RRow w v2 m) (hn : l.length ≤ 1000000) :
    Calls Tryz.prog 13 #[v1, v2] w fun e w' => e = .returned (.bool (sameR l m)) ∧ Below w.heap.size w w' := by
  obtain ⟨a1, c1, rfl, _, hl1⟩ := h1
  obtain ⟨a2, c2, rfl, _, hl2⟩ := h2
  by_cases hlen : l.length = m.length
  · have HL1 := Lib.hid hl1
    have HL2 := Lib.hid hl2
    obtain ⟨F, HF⟩ : ∃ F, Hid (sameR l m = F) := ⟨_, rfl⟩
    rw [HF.out]
    have HLEN := Lib.hid hlen
    rw [← hlen]
    clear hl1 hl2 hlen
    go_enter Tryz.func13, Tryz.ntmps13
    go_wp2
    go_loopw [5] (fun i wr => ∃ k nq : Nat, k ≤ l.length ∧ i = .int .i64 k ∧ wr = w.drewN nq ∧ Hid (∀ j (h1 : j < l.length) (h2 : j < m.length), j < k → eqR l[j] m[j] = true)) (fun i _ => l.length - (intOf i).toNat)
    case atStart => exact ⟨0, 0, Nat.zero_le _, rfl, rfl, fun j _ _ hj => absurd hj (Nat.not_lt_zero j)⟩
    case round =>
      obtain ⟨k, nq, hk, rfl, rfl, HT⟩ := hrel
      by_cases hlt : k < l.length
      · have hlt2 : k < m.length := by have := HLEN.out; omega
        obtain ⟨b1, o1, rfl, hb1, L1⟩ := HL1.out (ne_of_lt hlt)
        obtain ⟨b2, o2, rfl, hb2, L2⟩ := HL2.out (ne_of_lt hlt2)
        obtain ⟨e1, e2, e3, e4⟩ := r_at L1 k hlt
        obtain ⟨f1, f2, f3, f4⟩ := r_at L2 k hlt2
        have i1 : (k : Int) < (l.length : Int) := by omega
        have i2 : (0 : Int) ≤ (k : Int) := by omega
        have HN : Hid (eqR l[k] m[k] = false → F = false) := fun h => (HF.out).symm.trans (same_notR hlt hlt2 h)
        have HY : Hid (eqR l[k] m[k] = true → ∀ j (h1 : j < l.length) (h2 : j < m.length), j < k + 1 → eqR l[j] m[j] = true) := fun h j g1 g2 g3 => by
          by_cases hj : j < k
          · exact HT.out j g1 g2 hj
          · have : j = k := by omega
            subst this; exact h
        have HE := Lib.hid (eq_partsR l[k] m[k] _ _ _ _ rfl rfl rfl rfl)
        generalize l[k] = x at *
        generalize m[k] = y at *
        obtain ⟨x1, x2, x3, x4⟩ := x
        obtain ⟨y1, y2, y3, y4⟩ := y
        simp only at e1 f1 e2 f2 e3 f3 e4 f4 HE
        clear L1 L2 hb1 hb2 HL1 HL2 HT
        cases p1 : (x1 == y1)
        · have HV := Lib.hid (HN.out ((HE.out).trans (by simp only [p1, Bool.false_and])))
          clear HE HN HY
          go_wp2_with fail
          go_quiet (fail)
          go_wp2_with fail
          go_ret
          exact ⟨by first | (rw [HV.out]; done) | (rw [HV.out]; rfl), ⟨rfl, rfl, rfl, Nat.le_refl _, fun _ _ => rfl⟩⟩
        · cases p2 : (x2.toList == y2.toList)
          · have HV := Lib.hid (HN.out ((HE.out).trans (by simp only [p1, p2, Bool.and_false, Bool.false_and])))
            clear HE HN HY
            go_wp2_with fail
            go_quiet (fail)
            go_wp2_with fail
            go_ret
            exact ⟨by first | (rw [HV.out]; done) | (rw [HV.out]; rfl), ⟨rfl, rfl, rfl, Nat.le_refl _, fun _ _ => rfl⟩⟩
          · cases p3 : (x3 == y3)
            · have HV := Lib.hid (HN.out ((HE.out).trans (by simp only [p1, p2, p3, Bool.and_false, Bool.false_and])))
              clear HE HN HY
              go_wp2_with fail
              go_quiet (fail)
              go_wp2_with fail
              go_ret
              exact ⟨by first | (rw [HV.out]; done) | (rw [HV.out]; rfl), ⟨rfl, rfl, rfl, Nat.le_refl _, fun _ _ => rfl⟩⟩
            · cases p4 : (x4 == y4)
              · have HV := Lib.hid (HN.out ((HE.out).trans (by simp only [p1, p2, p3, p4, Bool.and_false])))
                clear HE HN HY
                go_wp2_with fail
                go_quiet (fail)
                go_wp2_with fail
                go_ret
                exact ⟨by first | (rw [HV.out]; done) | (rw [HV.out]; rfl), ⟨rfl, rfl, rfl, Nat.le_refl _, fun _ _ => rfl⟩⟩
              · have HV := Lib.hid (HY.out ((HE.out).trans (by simp only [p1, p2, p3, p4]; rfl)))
                clear HE HN HY
                go_wp2_with fail
                go_quiet (fail)
                go_wp2_with fail
                exact ⟨⟨k + 1, _, by omega, by go_num, rfl, HV⟩, by simp [intOf]; omega⟩
      · have HM := Lib.hid ((HF.out).symm.trans (same_allR HLEN.out (fun j g1 g2 => HT.out j g1 g2 (by omega))))
        go_wp2_with fail
        go_ret
        exact ⟨by first | (rw [HM.out]; done) | (rw [HM.out]; rfl), ⟨rfl, rfl, rfl, Nat.le_refl _, fun _ _ => rfl⟩⟩
  · rw [same_lenR hlen]
    have hlz : ¬ (l.length : Int) = (m.length : Int) := by omega
    clear hl1 hl2
    go_enter Tryz.func13, Tryz.ntmps13
    go_wp2
    go_ret
    exact ⟨rfl, Below.refl _ _⟩

end Go.Proofs.YtehgpibngalhfaaGreatDoor.Rw
