/- Items: the same, one by one: walks. -/
import Derived.Test.YtidkpalckafgkaaGreatDoorD2
namespace Go.Proofs.YtidkpalckafgkaaGreatDoor.Rw
open Go Go.RowKit Go.Sort Go.Lib Tg Pk Ky Qy

theorem item_ext {a b : Item} (h1 : a.win = b.win) (h2 : a.key = b.key) (h3 : a.c.cnt = b.c.cnt) (h4 : a.c.sn = b.c.sn) (h5 : a.c.so = b.c.so) (h6 : a.c.mn = b.c.mn) (h7 : a.c.mx = b.c.mx) : a = b := by
  obtain ⟨a1, a2, a3, a4, a5, a6, a7⟩ := a
  obtain ⟨b1, b2, b3, b4, b5, b6, b7⟩ := b
  simp only at h1 h2 h3 h4 h5 h6 h7
  subst h1 h2 h3 h4 h5 h6 h7; rfl
def eqI (a b : Item) : Bool := decide (a.win = b.win) && eqB a.key b.key && decide (a.c.cnt = b.c.cnt) && decide (a.c.sn = b.c.sn) && (a.c.so == b.c.so) && decide (a.c.mn = b.c.mn) && decide (a.c.mx = b.c.mx)
theorem eqI_true (a b : Item) : eqI a b = true ↔ a = b := by
  unfold eqI
  simp only [Bool.and_eq_true, decide_eq_true_eq, eqB_true, beq_iff_eq]
  constructor
  · rintro ⟨⟨⟨⟨⟨⟨h1, h2⟩, h3⟩, h4⟩, h5⟩, h6⟩, h7⟩; exact item_ext h1 h2 h3 h4 h5 h6 h7
  · rintro rfl; exact ⟨⟨⟨⟨⟨⟨rfl, rfl⟩, rfl⟩, rfl⟩, rfl⟩, rfl⟩, rfl⟩
def sameI (a b : List Item) : Bool := decide (a.length = b.length) && (List.range a.length).all fun i => eqI (a.getD i zitem) (b.getD i zitem)
theorem sameI_true (a b : List Item) : sameI a b = true ↔ a = b := by
  unfold sameI
  simp only [Bool.and_eq_true, decide_eq_true_eq, List.all_eq_true, List.mem_range, eqI_true]
  constructor
  · rintro ⟨h1, h2⟩
    apply List.ext_getElem h1
    intro i hi hj
    have := h2 i hi
    simpa [List.getD, hi, hj] using this
  · rintro rfl; exact ⟨rfl, fun _ _ => rfl⟩
theorem same_lenI {l m : List Item} (h : ¬ l.length = m.length) : sameI l m = false := by
  unfold sameI; rw [decide_eq_false h]; rfl
theorem same_notI {l m : List Item} {k : Nat} (h1 : k < l.length) (h2 : k < m.length) (h : eqI l[k] m[k] = false) : sameI l m = false := by
  cases hc : sameI l m
  · rfl
  · have e := (sameI_true l m).1 hc
    subst e
    rw [(eqI_true _ _).2 rfl] at h; cases h
theorem same_allI {l m : List Item} (hl : l.length = m.length) (h : ∀ j (h1 : j < l.length) (h2 : j < m.length), eqI l[j] m[j] = true) : sameI l m = true := by
  rw [sameI_true]
  exact List.ext_getElem hl (fun i h1 h2 => (eqI_true _ _).1 (h i h1 h2))
theorem eq_partsI (x y : Item) (p1 p2 p3 p4 p5 p6 p7 : Bool) (h1 : (x.win == y.win) = p1) (h2 : (x.key.toList == y.key.toList) = p2) (h3 : (x.c.cnt == y.c.cnt) = p3) (h4 : (x.c.sn == y.c.sn) = p4) (h5 : (x.c.so == y.c.so) = p5) (h6 : (x.c.mn == y.c.mn) = p6) (h7 : (x.c.mx == y.c.mx) = p7) : eqI x y = (p1 && p2 && p3 && p4 && p5 && p6 && p7) := by
  unfold eqI
  rw [← h1, ← h2, ← h3, ← h4, ← h5, ← h6, ← h7, beq_ba]
  rfl
set_option maxRecDepth 100000 in
set_option maxHeartbeats 2000000 in
theorem refItems_any (v1 v2 : Value) (l m : List Item) (w : World) (h1 : IRow w v1 l) (h2 : IRow w v2 m) (hn : l.length ≤ 1000000) :
    Calls Tryz.prog 25 #[v1, v2] w fun e w' => e = .returned (.bool (sameI l m)) ∧ Below w.heap.size w w' := by
  obtain ⟨a1, c1, rfl, _, hl1⟩ := h1
  obtain ⟨a2, c2, rfl, _, hl2⟩ := h2
  by_cases hlen : l.length = m.length
  · have HL1 := Lib.hid hl1
    have HL2 := Lib.hid hl2
    obtain ⟨F, HF⟩ : ∃ F, Hid (sameI l m = F) := ⟨_, rfl⟩
    rw [HF.out]
    have HLEN := Lib.hid hlen
    rw [← hlen]
    clear hl1 hl2 hlen
    go_enter Tryz.func25, Tryz.ntmps25
    go_wp2
    go_loopw [5] (fun i wr => ∃ k nq : Nat, k ≤ l.length ∧ i = .int .i64 k ∧ wr = w.drewN nq ∧ Hid (∀ j (h1 : j < l.length) (h2 : j < m.length), j < k → eqI l[j] m[j] = true)) (fun i _ => l.length - (intOf i).toNat)
    case atStart => exact ⟨0, 0, Nat.zero_le _, rfl, rfl, fun j _ _ hj => absurd hj (Nat.not_lt_zero j)⟩
    case round =>
      obtain ⟨k, nq, hk, rfl, rfl, HT⟩ := hrel
      by_cases hlt : k < l.length
      · have hlt2 : k < m.length := by have := HLEN.out; omega
        obtain ⟨b1, o1, rfl, hb1, L1⟩ := HL1.out (ne_of_lt hlt)
        obtain ⟨b2, o2, rfl, hb2, L2⟩ := HL2.out (ne_of_lt hlt2)
        obtain ⟨e1, e2, e3, e4, e5, e6, e7⟩ := i_at L1 k hlt
        obtain ⟨f1, f2, f3, f4, f5, f6, f7⟩ := i_at L2 k hlt2
        have i1 : (k : Int) < (l.length : Int) := by omega
        have i2 : (0 : Int) ≤ (k : Int) := by omega
        have HN : Hid (eqI l[k] m[k] = false → F = false) := fun h => (HF.out).symm.trans (same_notI hlt hlt2 h)
        have HY : Hid (eqI l[k] m[k] = true → ∀ j (h1 : j < l.length) (h2 : j < m.length), j < k + 1 → eqI l[j] m[j] = true) := fun h j g1 g2 g3 => by
          by_cases hj : j < k
          · exact HT.out j g1 g2 hj
          · have : j = k := by omega
            subst this; exact h
        have HE := Lib.hid (eq_partsI l[k] m[k] _ _ _ _ _ _ _ rfl rfl rfl rfl rfl rfl rfl)
        generalize l[k] = x at *
        generalize m[k] = y at *
        obtain ⟨x1, x2, ⟨x3, x4, x5, x6, x7⟩⟩ := x
        obtain ⟨y1, y2, ⟨y3, y4, y5, y6, y7⟩⟩ := y
        simp only at e1 f1 e2 f2 e3 f3 e4 f4 e5 f5 e6 f6 e7 f7 HE
        clear L1 L2 hb1 hb2 HL1 HL2 HT
        cases p1 : (x1 == y1)
        · have HV := Lib.hid (HN.out ((HE.out).trans (by simp only [p1, Bool.false_and])))
          clear HE HN HY
          go_wp2_with fail
          go_quiet (fail)
          go_wp2_with fail
          go_ret
          exact ⟨by first | (rw [HV.out]; done) | (rw [HV.out]; rfl), ⟨rfl, rfl, rfl, Nat.le_refl _, fun _ _ => rfl⟩⟩
        · cases p2 : (x2.toList == y2.toList)
          · have HV := Lib.hid (HN.out ((HE.out).trans (by simp only [p1, p2, Bool.and_false, Bool.false_and])))
            clear HE HN HY
            go_wp2_with fail
            go_quiet (fail)
            go_wp2_with fail
            go_ret
            exact ⟨by first | (rw [HV.out]; done) | (rw [HV.out]; rfl), ⟨rfl, rfl, rfl, Nat.le_refl _, fun _ _ => rfl⟩⟩
          · cases p3 : (x3 == y3)
            · have HV := Lib.hid (HN.out ((HE.out).trans (by simp only [p1, p2, p3, Bool.and_false, Bool.false_and])))
              clear HE HN HY
              go_wp2_with fail
              go_quiet (fail)
              go_wp2_with fail
              go_ret
              exact ⟨by first | (rw [HV.out]; done) | (rw [HV.out]; rfl), ⟨rfl, rfl, rfl, Nat.le_refl _, fun _ _ => rfl⟩⟩
            · cases p4 : (x4 == y4)
              · have HV := Lib.hid (HN.out ((HE.out).trans (by simp only [p1, p2, p3, p4, Bool.and_false, Bool.false_and])))
                clear HE HN HY
                go_wp2_with fail
                go_quiet (fail)
                go_wp2_with fail
                go_ret
                exact ⟨by first | (rw [HV.out]; done) | (rw [HV.out]; rfl), ⟨rfl, rfl, rfl, Nat.le_refl _, fun _ _ => rfl⟩⟩
              · cases p5 : (x5 == y5)
                · have HV := Lib.hid (HN.out ((HE.out).trans (by simp only [p1, p2, p3, p4, p5, Bool.and_false, Bool.false_and])))
                  clear HE HN HY
                  go_wp2_with fail
                  go_quiet (fail)
                  go_wp2_with fail
                  go_ret
                  exact ⟨by first | (rw [HV.out]; done) | (rw [HV.out]; rfl), ⟨rfl, rfl, rfl, Nat.le_refl _, fun _ _ => rfl⟩⟩
                · cases p6 : (x6 == y6)
                  · have HV := Lib.hid (HN.out ((HE.out).trans (by simp only [p1, p2, p3, p4, p5, p6, Bool.and_false, Bool.false_and])))
                    clear HE HN HY
                    go_wp2_with fail
                    go_quiet (fail)
                    go_wp2_with fail
                    go_ret
                    exact ⟨by first | (rw [HV.out]; done) | (rw [HV.out]; rfl), ⟨rfl, rfl, rfl, Nat.le_refl _, fun _ _ => rfl⟩⟩
                  · cases p7 : (x7 == y7)
                    · have HV := Lib.hid (HN.out ((HE.out).trans (by simp only [p1, p2, p3, p4, p5, p6, p7, Bool.and_false])))
                      clear HE HN HY
                      go_wp2_with fail
                      go_quiet (fail)
                      go_wp2_with fail
                      go_ret
                      exact ⟨by first | (rw [HV.out]; done) | (rw [HV.out]; rfl), ⟨rfl, rfl, rfl, Nat.le_refl _, fun _ _ => rfl⟩⟩
                    · have HV := Lib.hid (HY.out ((HE.out).trans (by simp only [p1, p2, p3, p4, p5, p6, p7]; rfl)))
                      clear HE HN HY
                      go_wp2_with fail
                      go_quiet (fail)
                      go_wp2_with fail
                      exact ⟨⟨k + 1, _, by omega, by go_num, rfl, HV⟩, by simp [intOf]; omega⟩
      · have HM := Lib.hid ((HF.out).symm.trans (same_allI HLEN.out (fun j g1 g2 => HT.out j g1 g2 (by omega))))
        go_wp2_with fail
        go_ret
        exact ⟨by first | (rw [HM.out]; done) | (rw [HM.out]; rfl), ⟨rfl, rfl, rfl, Nat.le_refl _, fun _ _ => rfl⟩⟩
  · rw [same_lenI hlen]
    have hlz : ¬ (l.length : Int) = (m.length : Int) := by omega
    clear hl1 hl2
    go_enter Tryz.func25, Tryz.ntmps25
    go_wp2
    go_ret
    exact ⟨rfl, Below.refl _ _⟩

end Go.Proofs.YtidkpalckafgkaaGreatDoor.Rw
