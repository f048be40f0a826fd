/- Changes in memory; too many, the same, where a place is: walks of the document's. -/
import Derived.Test.YtehgpibngalhfaaGreatDoorD2
import Derived.Test.YtehgpibngalhfaaGreatDoorM8
namespace Go.Proofs.YtehgpibngalhfaaGreatDoor.Rw
open Go Go.RowKit Go.Sort Go.Lib Tg Pk Ky Qy Df

def chC (c : Chg) : List Value := [.int .i64 c.r.win, .string c.r.grp, .int .i64 c.r.n, .bool c.r.ov, .bool c.gone]
theorem chC_len (c : Chg) : (chC c).length = 5 := rfl
theorem chC_one (c : Chg) : ∀ v ∈ chC c, v.oneCell' = true := by
  intro v hv
  simp [chC] at hv
  rcases hv with rfl | rfl | rfl | rfl | rfl <;> rfl
abbrev CRow := GRow chC 5
abbrev CAt := GAt chC 5
abbrev CLies := GLies chC 5
theorem c_at {w : World} {b o : Nat} {l : List Chg} (h : CLies w b o l) (i : Nat) (hi : i < l.length) :
    w.cell? ⟨b, o + i * 5, none⟩ = some (.int .i64 (l[i]).r.win) ∧ w.cell? ⟨b, o + i * 5 + 1, none⟩ = some (.string (l[i]).r.grp) ∧ w.cell? ⟨b, o + i * 5 + 2, none⟩ = some (.int .i64 (l[i]).r.n) ∧ w.cell? ⟨b, o + i * 5 + 3, none⟩ = some (.bool (l[i]).r.ov) ∧ w.cell? ⟨b, o + i * 5 + 4, none⟩ = some (.bool (l[i]).gone) :=
  ⟨h i hi 0 _ rfl, h i hi 1 _ rfl, h i hi 2 _ rfl, h i hi 3 _ rfl, h i hi 4 _ rfl⟩
def chV (c : Chg) : Value := .agg #[.int .i64 c.r.win, .string c.r.grp, .int .i64 c.r.n, .bool c.r.ov, .bool c.gone]

/-! ### too many -/
def greatC (l : List Chg) : Bool := decide (100 < l.length) || l.any fun c => decide (300 < c.r.grp.size)
theorem greatC_many {l : List Chg} (h : 100 < l.length) : greatC l = true := by unfold greatC; rw [decide_eq_true h]; rfl
theorem greatC_one {l : List Chg} {k : Nat} (hk : k < l.length) (h : 300 < (l[k]).r.grp.size) : greatC l = true := by
  unfold greatC
  have : l.any (fun c => decide (300 < c.r.grp.size)) = true := List.any_eq_true.2 ⟨l[k], List.getElem_mem hk, decide_eq_true h⟩
  rw [this, Bool.or_true]
theorem greatC_none {l : List Chg} (h0 : ¬ 100 < l.length) (h : ∀ j (hj : j < l.length), ¬ 300 < (l[j]).r.grp.size) : greatC l = false := by
  unfold greatC
  have : l.any (fun c => decide (300 < c.r.grp.size)) = false := by
    rw [List.any_eq_false]; intro x hx
    obtain ⟨i, hi, rfl⟩ := List.mem_iff_getElem.1 hx
    simp [h i hi]
  rw [this, decide_eq_false h0]; rfl
theorem greatC_not {l : List Chg} (h : greatC l = false) : l.length ≤ 100 ∧ ∀ x ∈ l, x.r.grp.size ≤ 300 := by
  unfold greatC at h
  rw [Bool.or_eq_false_iff, decide_eq_false_iff_not, List.any_eq_false] at h
  refine ⟨by omega, fun x hx => ?_⟩
  have := h.2 x hx
  simp at this; omega

set_option maxRecDepth 100000 in
set_option maxHeartbeats 1000000 in
theorem greatC_any (v : Value) (l : List Chg) (w : World) (h : CRow w v l) (hs : ∀ x ∈ l, x.r.grp.size ≤ 281474976710656) :
    Calls Tryz.prog 16 #[v] w fun e w' => e = .returned (.bool (greatC l)) ∧ w' = w := by
  obtain ⟨a, c, rfl, hc, hl⟩ := h
  by_cases h0 : 100 < l.length
  · rw [greatC_many h0]
    have hz : (100 : Int) < (l.length : Int) := by omega
    clear hl
    go_enter Tryz.func16, Tryz.ntmps16
    go_wp2
    go_ret
    exact ⟨rfl, rfl⟩
  · have hz : ¬ (100 : Int) < (l.length : Int) := by omega
    have HL := Lib.hid hl
    have HS := Lib.hid hs
    obtain ⟨F, HF⟩ : ∃ F, Hid (greatC l = F) := ⟨_, rfl⟩
    rw [HF.out]
    clear hl hs
    go_enter Tryz.func16, Tryz.ntmps16
    go_wp2
    go_loop [3] (fun i => ∃ (k : Nat), k ≤ l.length ∧ i = .int .i64 k ∧ Hid (∀ j (hj : j < l.length), j < k → ¬ 300 < (l[j]).r.grp.size)) (fun i => l.length - (intOf i).toNat)
    case atStart => exact ⟨0, Nat.zero_le _, rfl, fun j _ hj => absurd hj (Nat.not_lt_zero j)⟩
    case round =>
      obtain ⟨k, hk, rfl, HT⟩ := hrel
      by_cases hlt : k < l.length
      · obtain ⟨b, o, rfl, hb, hL⟩ := HL.out (ne_of_lt hlt)
        obtain ⟨e1, e2, e3, e4, e5⟩ := c_at hL k hlt
        have i1 : (k : Int) < (l.length : Int) := by omega
        have i2 : (0 : Int) ≤ (k : Int) := by omega
        have hsz := HS.out l[k] (List.getElem_mem hlt)
        by_cases hg : 300 < (l[k]).r.grp.size
        · have HM := Lib.hid ((HF.out).symm.trans (greatC_one hlt hg))
          generalize l[k] = x at *
          have hgz : (300 : Int) < (x.r.grp.size : Int) := by omega
          clear hL hb HL HT HS
          go_wp2_with fail
          go_ret
          exact ⟨by first | (rw [HM.out]; done) | (rw [HM.out]; rfl), rfl⟩
        · have HN : Hid (∀ j (hj : j < l.length), j < k + 1 → ¬ 300 < (l[j]).r.grp.size) := fun j hj hjk => by
            by_cases q : j < k
            · exact HT.out j hj q
            · have : j = k := by omega
              subst this; exact hg
          generalize l[k] = x at *
          have hgz : ¬ (300 : Int) < (x.r.grp.size : Int) := by omega
          clear hL hb HL HT HS
          go_wp2_with fail
          exact ⟨⟨k + 1, by omega, by go_num, HN⟩, by simp [intOf]; omega⟩
      · have HM := Lib.hid ((HF.out).symm.trans (greatC_none h0 fun j hj => HT.out j hj (by omega)))
        go_wp2_with fail
        go_ret
        exact ⟨by first | (rw [HM.out]; done) | (rw [HM.out]; rfl), rfl⟩

/-! ### the same, one by one -/
theorem same_lenC {l m : List Chg} (h : ¬ l.length = m.length) : sameC l m = false := by
  unfold sameC; rw [decide_eq_false h]; rfl
theorem same_notC {l m : List Chg} {k : Nat} (h1 : k < l.length) (h2 : k < m.length) (h : eqC l[k] m[k] = false) : sameC l m = false := by
  cases hc : sameC l m
  · rfl
  · have e := (sameC_true l m).1 hc
    subst e
    rw [(eqC_true _ _).2 rfl] at h; cases h
theorem same_allC {l m : List Chg} (hl : l.length = m.length) (h : ∀ j (h1 : j < l.length) (h2 : j < m.length), eqC l[j] m[j] = true) : sameC l m = true := by
  rw [sameC_true]
  exact List.ext_getElem hl (fun i h1 h2 => (eqC_true _ _).1 (h i h1 h2))
theorem eq_partsC (x y : Chg) (p1 p2 p3 p4 p5 : Bool) (h1 : (x.r.win == y.r.win) = p1) (h2 : (x.r.grp.toList == y.r.grp.toList) = p2) (h3 : (x.r.n == y.r.n) = p3) (h4 : (x.r.ov == y.r.ov) = p4) (h5 : (x.gone == y.gone) = p5) : eqC x y = (p1 && p2 && p3 && p4 && p5) := by
  unfold eqC eqR
  rw [← h1, ← h2, ← h3, ← h4, ← h5, beq_ba]
  rfl
set_option maxRecDepth 100000 in
set_option maxHeartbeats 2000000 in
theorem refSameC_any (v1 v2 : Value) (l m : List Chg) (w : World) (h1 : CRow w v1 l) (h2 : CRow w v2 m) (hn : l.length ≤ 1000000) :
    Calls Tryz.prog 12 #[v1, v2] w fun e w' => e = .returned (.bool (sameC l m)) ∧ Below w.heap.size w w' := by
  obtain ⟨a1, c1, rfl, _, hl1⟩ := h1
  obtain ⟨a2, c2, rfl, _, hl2⟩ := h2
  by_cases hlen : l.length = m.length
  · have HL1 := Lib.hid hl1
    have HL2 := Lib.hid hl2
    obtain ⟨F, HF⟩ : ∃ F, Hid (sameC l m = F) := ⟨_, rfl⟩
    rw [HF.out]
    have HLEN := Lib.hid hlen
    rw [← hlen]
    clear hl1 hl2 hlen
    go_enter Tryz.func12, Tryz.ntmps12
    go_wp2
    go_loopw [5] (fun i wr => ∃ k nq : Nat, k ≤ l.length ∧ i = .int .i64 k ∧ wr = w.drewN nq ∧ Hid (∀ j (h1 : j < l.length) (h2 : j < m.length), j < k → eqC l[j] m[j] = true)) (fun i _ => l.length - (intOf i).toNat)
    case atStart => exact ⟨0, 0, Nat.zero_le _, rfl, rfl, fun j _ _ hj => absurd hj (Nat.not_lt_zero j)⟩
    case round =>
      obtain ⟨k, nq, hk, rfl, rfl, HT⟩ := hrel
      by_cases hlt : k < l.length
      · have hlt2 : k < m.length := by have := HLEN.out; omega
        obtain ⟨b1, o1, rfl, hb1, L1⟩ := HL1.out (ne_of_lt hlt)
        obtain ⟨b2, o2, rfl, hb2, L2⟩ := HL2.out (ne_of_lt hlt2)
        obtain ⟨e1, e2, e3, e4, e5⟩ := c_at L1 k hlt
        obtain ⟨f1, f2, f3, f4, f5⟩ := c_at L2 k hlt2
        have i1 : (k : Int) < (l.length : Int) := by omega
        have i2 : (0 : Int) ≤ (k : Int) := by omega
        have HN : Hid (eqC l[k] m[k] = false → F = false) := fun h => (HF.out).symm.trans (same_notC hlt hlt2 h)
        have HY : Hid (eqC l[k] m[k] = true → ∀ j (h1 : j < l.length) (h2 : j < m.length), j < k + 1 → eqC l[j] m[j] = true) := fun h j g1 g2 g3 => by
          by_cases hj : j < k
          · exact HT.out j g1 g2 hj
          · have : j = k := by omega
            subst this; exact h
        have HE := Lib.hid (eq_partsC l[k] m[k] _ _ _ _ _ rfl rfl rfl rfl rfl)
        generalize l[k] = x at *
        generalize m[k] = y at *
        obtain ⟨⟨x1, x2, x3, x4⟩, x5⟩ := x
        obtain ⟨⟨y1, y2, y3, y4⟩, y5⟩ := y
        simp only at e1 f1 e2 f2 e3 f3 e4 f4 e5 f5 HE
        clear L1 L2 hb1 hb2 HL1 HL2 HT
        cases p1 : (x1 == y1)
        · have HV := Lib.hid (HN.out ((HE.out).trans (by simp only [p1, Bool.false_and])))
          clear HE HN HY
          go_wp2_with fail
          go_quiet (fail)
          go_wp2_with fail
          go_ret
          exact ⟨by first | (rw [HV.out]; done) | (rw [HV.out]; rfl), ⟨rfl, rfl, rfl, Nat.le_refl _, fun _ _ => rfl⟩⟩
        · cases p2 : (x2.toList == y2.toList)
          · have HV := Lib.hid (HN.out ((HE.out).trans (by simp only [p1, p2, Bool.and_false, Bool.false_and])))
            clear HE HN HY
            go_wp2_with fail
            go_quiet (fail)
            go_wp2_with fail
            go_ret
            exact ⟨by first | (rw [HV.out]; done) | (rw [HV.out]; rfl), ⟨rfl, rfl, rfl, Nat.le_refl _, fun _ _ => rfl⟩⟩
          · cases p3 : (x3 == y3)
            · have HV := Lib.hid (HN.out ((HE.out).trans (by simp only [p1, p2, p3, Bool.and_false, Bool.false_and])))
              clear HE HN HY
              go_wp2_with fail
              go_quiet (fail)
              go_wp2_with fail
              go_ret
              exact ⟨by first | (rw [HV.out]; done) | (rw [HV.out]; rfl), ⟨rfl, rfl, rfl, Nat.le_refl _, fun _ _ => rfl⟩⟩
            · cases p4 : (x4 == y4)
              · have HV := Lib.hid (HN.out ((HE.out).trans (by simp only [p1, p2, p3, p4, Bool.and_false, Bool.false_and])))
                clear HE HN HY
                go_wp2_with fail
                go_quiet (fail)
                go_wp2_with fail
                go_ret
                exact ⟨by first | (rw [HV.out]; done) | (rw [HV.out]; rfl), ⟨rfl, rfl, rfl, Nat.le_refl _, fun _ _ => rfl⟩⟩
              · cases p5 : (x5 == y5)
                · have HV := Lib.hid (HN.out ((HE.out).trans (by simp only [p1, p2, p3, p4, p5, Bool.and_false])))
                  clear HE HN HY
                  go_wp2_with fail
                  go_quiet (fail)
                  go_wp2_with fail
                  go_ret
                  exact ⟨by first | (rw [HV.out]; done) | (rw [HV.out]; rfl), ⟨rfl, rfl, rfl, Nat.le_refl _, fun _ _ => rfl⟩⟩
                · have HV := Lib.hid (HY.out ((HE.out).trans (by simp only [p1, p2, p3, p4, p5]; rfl)))
                  clear HE HN HY
                  go_wp2_with fail
                  go_quiet (fail)
                  go_wp2_with fail
                  exact ⟨⟨k + 1, _, by omega, by go_num, rfl, HV⟩, by simp [intOf]; omega⟩
      · have HM := Lib.hid ((HF.out).symm.trans (same_allC HLEN.out (fun j g1 g2 => HT.out j g1 g2 (by omega))))
        go_wp2_with fail
        go_ret
        exact ⟨by first | (rw [HM.out]; done) | (rw [HM.out]; rfl), ⟨rfl, rfl, rfl, Nat.le_refl _, fun _ _ => rfl⟩⟩
  · rw [same_lenC hlen]
    have hlz : ¬ (l.length : Int) = (m.length : Int) := by omega
    clear hl1 hl2
    go_enter Tryz.func12, Tryz.ntmps12
    go_wp2
    go_ret
    exact ⟨rfl, Below.refl _ _⟩

/-! ### where a place is -/
theorem Gw.drewN {W w' : World} (h : Gw W w') (q : Nat) : Gw W (w'.drewN q) := h.trans ⟨q, #[], by rw [grow_empty]⟩
theorem pe_parts (x y : Row) (p1 p2 : Bool) (h1 : (x.win == y.win) = p1) (h2 : (x.grp.toList == y.grp.toList) = p2) : pe x y = (p1 && p2) := by
  unfold pe; rw [← h1, ← h2, beq_ba]; rfl

set_option maxRecDepth 100000 in
set_option maxHeartbeats 2000000 in
theorem refFind_any (v : Value) (l : List Row) (r : Row) (w : World) (h : RRow w v l) (hn : l.length ≤ 1000000) :
    Calls Tryz.prog 28 #[v, .agg #[.int .i64 r.win, .string r.grp, .int .i64 r.n, .bool r.ov]] w fun e w' => e = .returned (.int .i64 (findR l r)) ∧ Gw w w' := by
  obtain ⟨a, c, rfl, _, hl⟩ := h
  obtain ⟨F, HF⟩ : ∃ F, Hid (findR l r = F) := ⟨_, rfl⟩
  rw [HF.out]
  have HL := Lib.hid hl
  clear hl
  go_enter Tryz.func28, Tryz.ntmps28
  go_wp2_with fail
  have G0 : Hid (Gw w (w.alloc (.cells #[.int .i64 r.win, .string r.grp, .int .i64 r.n, .bool r.ov] 45))) := (Gw.refl w).alloc _
  have r1 : (w.alloc (.cells #[.int .i64 r.win, .string r.grp, .int .i64 r.n, .bool r.ov] 45)).cell? ⟨w.heap.size, 0, none⟩ = some (.int .i64 r.win) := by simp
  have r2 : (w.alloc (.cells #[.int .i64 r.win, .string r.grp, .int .i64 r.n, .bool r.ov] 45)).cell? ⟨w.heap.size, 1, none⟩ = some (.string r.grp) := by simp
  generalize w.alloc (.cells #[.int .i64 r.win, .string r.grp, .int .i64 r.n, .bool r.ov] 45) = wr at *
  go_loopw [5] (fun i wx => ∃ (k nq : Nat), k ≤ l.length ∧ i = .int .i64 k ∧ wx = wr.drewN nq ∧ Hid (∀ j (h1 : j < l.length), j < k → pe l[j] r = false)) (fun i _ => l.length - (intOf i).toNat)
  case atStart => exact ⟨0, 0, Nat.zero_le _, rfl, rfl, fun j _ hj => absurd hj (Nat.not_lt_zero j)⟩
  case round =>
    obtain ⟨k, nq, hk, rfl, rfl, HT⟩ := hrel
    by_cases hlt : k < l.length
    · obtain ⟨b, o, rfl, hb, hL⟩ := HL.out (ne_of_lt hlt)
      obtain ⟨e1, e2, e3, e4⟩ := r_at (hL.on hb G0.out.below) k hlt
      have i1 : (k : Int) < (l.length : Int) := by omega
      have i2 : (0 : Int) ≤ (k : Int) := by omega
      have HN : Hid (pe l[k] r = true → F = (k : Int)) := fun h => (HF.out).symm.trans (findR_at hlt HT.out h)
      have HY : Hid (pe l[k] r = false → ∀ j (h1 : j < l.length), j < k + 1 → pe l[j] r = false) := fun h j g1 g3 => by
        by_cases hj : j < k
        · exact HT.out j g1 hj
        · have : j = k := by omega
          subst this; exact h
      have HE := Lib.hid (pe_parts l[k] r _ _ rfl rfl)
      generalize l[k] = x at *
      obtain ⟨x1, x2, x3, x4⟩ := x
      obtain ⟨y1, y2, y3, y4⟩ := r
      simp only at e1 e2 e3 e4 r1 r2 HE
      clear hL hb HL HT
      cases p1 : (x1 == y1)
      · have HV := Lib.hid (HY.out ((HE.out).trans (by simp only [p1, Bool.false_and])))
        clear HE HN HY
        go_wp2_with fail
        go_quiet (fail)
        go_wp2_with fail
        exact ⟨⟨k + 1, _, by omega, by go_num, rfl, HV⟩, by simp [intOf]; omega⟩
      · cases p2 : (x2.toList == y2.toList)
        · have HV := Lib.hid (HY.out ((HE.out).trans (by simp only [p1, p2, Bool.and_false])))
          clear HE HN HY
          go_wp2_with fail
          go_quiet (fail)
          go_wp2_with fail
          exact ⟨⟨k + 1, _, by omega, by go_num, rfl, HV⟩, by simp [intOf]; omega⟩
        · have HV := Lib.hid (HN.out ((HE.out).trans (by simp only [p1, p2]; rfl)))
          clear HE HN HY
          go_wp2_with fail
          go_quiet (fail)
          go_wp2_with fail
          go_ret
          exact ⟨by first | (rw [HV.out]; done) | (rw [HV.out]; rfl), (G0.out.drewN _).drewN _⟩
    · have HM := Lib.hid ((HF.out).symm.trans (findR_none (fun x hx => by
        obtain ⟨i, hi, rfl⟩ := List.mem_iff_getElem.1 hx
        exact HT.out i hi (by omega))))
      have i1 : ¬ (k : Int) < (l.length : Int) := by omega
      go_wp2_with fail
      go_ret
      exact ⟨by first | (rw [HM.out]; done) | (rw [HM.out]; rfl), G0.out.drewN _⟩

end Go.Proofs.YtehgpibngalhfaaGreatDoor.Rw
