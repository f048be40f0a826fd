/- Versions in memory; in order, the same, the last one: walks of the document's. -/
import Derived.Test.YthiofbohllmfbaaD0
import Derived.Test.YthiofbohllmfbaaM9
namespace Go.Proofs.Ythiofbohllmfbaa.Ch
open Go Go.RowKit Go.Sort Go.Lib Cl

def verC (v : Ver) : List Value := [.int .i64 v.st, .int .i64 v.c.cnt, .int .i64 v.c.sn, .bool v.c.so, .int .i64 v.c.mn, .int .i64 v.c.mx]
theorem verC_len (v : Ver) : (verC v).length = 6 := rfl
theorem verC_one (v : Ver) : ∀ x ∈ verC v, x.oneCell' = true := by
  intro x hx
  simp [verC] at hx
  rcases hx with rfl | rfl | rfl | rfl | rfl | rfl <;> rfl
abbrev VRow := GRow verC 6
abbrev VAt := GAt verC 6
abbrev VLies := GLies verC 6
theorem v_at {w : World} {b o : Nat} {l : List Ver} (h : VLies w b o l) (i : Nat) (hi : i < l.length) :
    w.cell? ⟨b, o + i * 6, none⟩ = some (.int .i64 (l[i]).st) ∧ w.cell? ⟨b, o + i * 6 + 1, none⟩ = some (.int .i64 (l[i]).c.cnt) ∧ w.cell? ⟨b, o + i * 6 + 2, none⟩ = some (.int .i64 (l[i]).c.sn) ∧ w.cell? ⟨b, o + i * 6 + 3, none⟩ = some (.bool (l[i]).c.so) ∧ w.cell? ⟨b, o + i * 6 + 4, none⟩ = some (.int .i64 (l[i]).c.mn) ∧ w.cell? ⟨b, o + i * 6 + 5, none⟩ = some (.int .i64 (l[i]).c.mx) :=
  ⟨h i hi 0 _ rfl, h i hi 1 _ rfl, h i hi 2 _ rfl, h i hi 3 _ rfl, h i hi 4 _ rfl, h i hi 5 _ rfl⟩
def celV (c : Cell) : Value := .agg #[.int .i64 c.cnt, .int .i64 c.sn, .bool c.so, .int .i64 c.mn, .int .i64 c.mx]

/-! ### in order -/
theorem fine_next {l : List Ver} {k : Nat} (h : ∀ j (hj : j < l.length), j < k → inR l[j] = true ∧ (0 < j → ∃ h' : j - 1 < l.length, (l[j - 1]).st < (l[j]).st)) (hk : k < l.length) (h1 : inR l[k] = true) (h2 : 0 < k → ∃ h' : k - 1 < l.length, (l[k - 1]).st < (l[k]).st) :
    ∀ j (hj : j < l.length), j < k + 1 → inR l[j] = true ∧ (0 < j → ∃ h' : j - 1 < l.length, (l[j - 1]).st < (l[j]).st) := by
  intro j hj hjk
  by_cases q : j < k
  · exact h j hj q
  · have : j = k := by omega
    subst this; exact ⟨h1, h2⟩
set_option maxRecDepth 100000 in
set_option maxHeartbeats 2000000 in
theorem refRightV_any (v : Value) (l : List Ver) (w : World) (h : VRow w v l) (hn : l.length ≤ 1000000) :
    Calls Try.prog 34 #[v] w fun e w' => e = .returned (.bool (vright l)) ∧ Below w.heap.size w w' := by
  obtain ⟨a, c, rfl, hc, hl⟩ := h
  have HL := Lib.hid hl
  obtain ⟨F, HF⟩ : ∃ F, Hid (vright l = F) := ⟨_, rfl⟩
  rw [HF.out]
  clear hl
  go_enter Try.func34, Try.ntmps34
  go_wp2
  go_loopw [3] (fun i wr => ∃ k nq : Nat, k ≤ l.length ∧ i = .int .i64 k ∧ wr = w.drewN nq ∧ Hid (∀ j (hj : j < l.length), j < k → inR l[j] = true ∧ (0 < j → ∃ h' : j - 1 < l.length, (l[j - 1]).st < (l[j]).st))) (fun i _ => l.length - (intOf i).toNat)
  case atStart => exact ⟨0, 0, Nat.zero_le _, rfl, rfl, fun j _ hj => absurd hj (Nat.not_lt_zero j)⟩
  case round =>
    obtain ⟨k, n0, hk, rfl, rfl, HT⟩ := hrel
    by_cases hlt : k < l.length
    · obtain ⟨b, o, rfl, hb, hL⟩ := HL.out (ne_of_lt hlt)
      obtain ⟨e1, e2, e3, e4, e5, e6⟩ := v_at hL k hlt
      have i1 : (k : Int) < (l.length : Int) := by omega
      have i2 : (0 : Int) ≤ (k : Int) := by omega
      have HX : Hid (badAt l k hlt → F = false) := fun h => (HF.out).symm.trans (vright_not hlt h)
      by_cases c1 : (l[k]).st < 1
      · have HM := Lib.hid (HX.out (Or.inl (by unfold inR; simp; omega)))
        have q1 : decide ((l[k]).st < 1) = true := decide_eq_true c1
        generalize l[k] = x at *
        clear hL HL HT HX
        go_wp2_with fail
        go_quiet (fail)
        go_wp2_with fail
        go_ret
        exact ⟨by first | (rw [HM.out]; done) | (rw [HM.out]; rfl), ⟨rfl, rfl, rfl, Nat.le_refl _, fun _ _ => rfl⟩⟩
      · have q1 : decide ((l[k]).st < 1) = false := decide_eq_false c1
        by_cases c2 : 1000000000000000 < (l[k]).st
        · have HM := Lib.hid (HX.out (Or.inl (by unfold inR; simp; omega)))
          have q2 : decide (1000000000000000 < (l[k]).st) = true := decide_eq_true c2
          generalize l[k] = x at *
          clear hL HL HT HX
          go_wp2_with fail
          go_quiet (fail)
          go_wp2_with fail
          go_ret
          exact ⟨by first | (rw [HM.out]; done) | (rw [HM.out]; rfl), ⟨rfl, rfl, rfl, Nat.le_refl _, fun _ _ => rfl⟩⟩
        · have q2 : decide (1000000000000000 < (l[k]).st) = false := decide_eq_false c2
          have hin : inR l[k] = true := by unfold inR; simp; omega
          by_cases c3 : 0 < k
          · have hk1 : k - 1 < l.length := by omega
            obtain ⟨f1, f2, f3, f4, f5, f6⟩ := v_at hL (k - 1) hk1
            have q3 : decide ((0 : Int) < (k : Int)) = true := decide_eq_true (by omega)
            have j1 : (0 : Int) ≤ (k : Int) - 1 := by omega
            have j2 : (k : Int) - 1 < (l.length : Int) := by omega
            have j3 : ((k : Int) - 1).toNat = k - 1 := by omega
            have j4 : IntKind.i64.wrap ((k : Int) - 1) = (k : Int) - 1 := by rw [IntKind.wrap_i64]; omega
            by_cases c4 : (l[k]).st ≤ (l[k - 1]).st
            · have HM := Lib.hid (HX.out (Or.inr ⟨c3, hk1, c4⟩))
              have q4 : decide ((l[k]).st ≤ (l[k - 1]).st) = true := decide_eq_true c4
              generalize l[k - 1] = y at *
              generalize l[k] = x at *
              clear hL HL HT HX
              go_wp2_with fail
              go_quiet (fail)
              go_wp2_with fail
              go_ret
              exact ⟨by first | (rw [HM.out]; done) | (rw [HM.out]; rfl), ⟨rfl, rfl, rfl, Nat.le_refl _, fun _ _ => rfl⟩⟩
            · have HM := Lib.hid (fine_next HT.out hlt hin (fun _ => ⟨hk1, by omega⟩))
              have q4 : decide ((l[k]).st ≤ (l[k - 1]).st) = false := decide_eq_false c4
              generalize l[k - 1] = y at *
              generalize l[k] = x at *
              clear hL HL HT HX
              go_wp2_with fail
              go_quiet (fail)
              go_wp2_with fail
              exact ⟨⟨k + 1, _, by omega, by go_num, rfl, HM⟩, by simp [intOf]; omega⟩
          · have HM := Lib.hid (fine_next HT.out hlt hin (fun h => absurd h c3))
            have q3 : decide ((0 : Int) < (k : Int)) = false := decide_eq_false (by omega)
            have q5 : ¬ (0 : Int) < (k : Int) := by omega
            generalize l[k] = x at *
            clear hL HL HT HX
            go_wp2_with fail
            go_quiet (fail)
            go_wp2_with fail
            exact ⟨⟨k + 1, _, by omega, by go_num, rfl, HM⟩, by simp [intOf]; omega⟩
    · have HM := Lib.hid ((HF.out).symm.trans (vright_all fun j hj => HT.out j hj (by omega)))
      have i1 : ¬ (k : Int) < (l.length : Int) := by omega
      go_wp2_with fail
      go_ret
      exact ⟨by first | (rw [HM.out]; done) | (rw [HM.out]; rfl), ⟨rfl, rfl, rfl, Nat.le_refl _, fun _ _ => rfl⟩⟩

/-! ### the same, one by one -/
theorem same_lenV {l m : List Ver} (h : ¬ l.length = m.length) : sameV l m = false := by
  unfold sameV; rw [decide_eq_false h]; rfl
theorem same_notV {l m : List Ver} {k : Nat} (h1 : k < l.length) (h2 : k < m.length) (h : eqV l[k] m[k] = false) : sameV l m = false := by
  cases hc : sameV l m
  · rfl
  · have e := (sameV_true l m).1 hc
    subst e
    rw [(eqV_true _ _).2 rfl] at h; cases h
theorem same_allV {l m : List Ver} (hl : l.length = m.length) (h : ∀ j (h1 : j < l.length) (h2 : j < m.length), eqV l[j] m[j] = true) : sameV l m = true := by
  rw [sameV_true]
  exact List.ext_getElem hl (fun i h1 h2 => (eqV_true _ _).1 (h i h1 h2))
theorem eq_partsV (x y : Ver) (p1 p2 p3 p4 p5 p6 : Bool) (h1 : (x.st == y.st) = p1) (h2 : (x.c.cnt == y.c.cnt) = p2) (h3 : (x.c.sn == y.c.sn) = p3) (h4 : (x.c.so == y.c.so) = p4) (h5 : (x.c.mn == y.c.mn) = p5) (h6 : (x.c.mx == y.c.mx) = p6) : eqV x y = (p1 && p2 && p3 && p4 && p5 && p6) := by
  unfold eqV
  rw [← h1, ← h2, ← h3, ← h4, ← h5, ← h6]
  rfl
set_option maxRecDepth 100000 in
set_option maxHeartbeats 2000000 in
theorem refSameV_any (v1 v2 : Value) (l m : List Ver) (w : World) (h1 : VRow w v1 l) (h2 : VRow w v2 m) (hn : l.length ≤ 1000000) :
    Calls Try.prog 31 #[v1, v2] w fun e w' => e = .returned (.bool (sameV l m)) ∧ Below w.heap.size w w' := by
  obtain ⟨a1, c1, rfl, _, hl1⟩ := h1
  obtain ⟨a2, c2, rfl, _, hl2⟩ := h2
  by_cases hlen : l.length = m.length
  · have HL1 := Lib.hid hl1
    have HL2 := Lib.hid hl2
    obtain ⟨F, HF⟩ : ∃ F, Hid (sameV l m = F) := ⟨_, rfl⟩
    rw [HF.out]
    have HLEN := Lib.hid hlen
    rw [← hlen]
    clear hl1 hl2 hlen
    go_enter Try.func31, Try.ntmps31
    go_wp2
    go_loopw [5] (fun i wr => ∃ k nq : Nat, k ≤ l.length ∧ i = .int .i64 k ∧ wr = w.drewN nq ∧ Hid (∀ j (h1 : j < l.length) (h2 : j < m.length), j < k → eqV l[j] m[j] = true)) (fun i _ => l.length - (intOf i).toNat)
    case atStart => exact ⟨0, 0, Nat.zero_le _, rfl, rfl, fun j _ _ hj => absurd hj (Nat.not_lt_zero j)⟩
    case round =>
      obtain ⟨k, nq, hk, rfl, rfl, HT⟩ := hrel
      by_cases hlt : k < l.length
      · have hlt2 : k < m.length := by have := HLEN.out; omega
        obtain ⟨b1, o1, rfl, hb1, L1⟩ := HL1.out (ne_of_lt hlt)
        obtain ⟨b2, o2, rfl, hb2, L2⟩ := HL2.out (ne_of_lt hlt2)
        obtain ⟨e1, e2, e3, e4, e5, e6⟩ := v_at L1 k hlt
        obtain ⟨f1, f2, f3, f4, f5, f6⟩ := v_at L2 k hlt2
        have i1 : (k : Int) < (l.length : Int) := by omega
        have i2 : (0 : Int) ≤ (k : Int) := by omega
        have HN : Hid (eqV l[k] m[k] = false → F = false) := fun h => (HF.out).symm.trans (same_notV hlt hlt2 h)
        have HY : Hid (eqV l[k] m[k] = true → ∀ j (h1 : j < l.length) (h2 : j < m.length), j < k + 1 → eqV l[j] m[j] = true) := fun h j g1 g2 g3 => by
          by_cases hj : j < k
          · exact HT.out j g1 g2 hj
          · have : j = k := by omega
            subst this; exact h
        have HE := Lib.hid (eq_partsV l[k] m[k] _ _ _ _ _ _ rfl rfl rfl rfl rfl rfl)
        generalize l[k] = x at *
        generalize m[k] = y at *
        obtain ⟨x1, ⟨x2, x3, x4, x5, x6⟩⟩ := x
        obtain ⟨y1, ⟨y2, y3, y4, y5, y6⟩⟩ := y
        simp only at e1 f1 e2 f2 e3 f3 e4 f4 e5 f5 e6 f6 HE
        clear L1 L2 hb1 hb2 HL1 HL2 HT
        cases p1 : (x1 == y1)
        · have HV := Lib.hid (HN.out ((HE.out).trans (by simp only [p1, Bool.false_and])))
          clear HE HN HY
          go_wp2_with fail
          go_quiet (fail)
          go_wp2_with fail
          go_ret
          exact ⟨by first | (rw [HV.out]; done) | (rw [HV.out]; rfl), ⟨rfl, rfl, rfl, Nat.le_refl _, fun _ _ => rfl⟩⟩
        · cases p2 : (x2 == y2)
          · have HV := Lib.hid (HN.out ((HE.out).trans (by simp only [p1, p2, Bool.and_false, Bool.false_and])))
            clear HE HN HY
            go_wp2_with fail
            go_quiet (fail)
            go_wp2_with fail
            go_ret
            exact ⟨by first | (rw [HV.out]; done) | (rw [HV.out]; rfl), ⟨rfl, rfl, rfl, Nat.le_refl _, fun _ _ => rfl⟩⟩
          · cases p3 : (x3 == y3)
            · have HV := Lib.hid (HN.out ((HE.out).trans (by simp only [p1, p2, p3, Bool.and_false, Bool.false_and])))
              clear HE HN HY
              go_wp2_with fail
              go_quiet (fail)
              go_wp2_with fail
              go_ret
              exact ⟨by first | (rw [HV.out]; done) | (rw [HV.out]; rfl), ⟨rfl, rfl, rfl, Nat.le_refl _, fun _ _ => rfl⟩⟩
            · cases p4 : (x4 == y4)
              · have HV := Lib.hid (HN.out ((HE.out).trans (by simp only [p1, p2, p3, p4, Bool.and_false, Bool.false_and])))
                clear HE HN HY
                go_wp2_with fail
                go_quiet (fail)
                go_wp2_with fail
                go_ret
                exact ⟨by first | (rw [HV.out]; done) | (rw [HV.out]; rfl), ⟨rfl, rfl, rfl, Nat.le_refl _, fun _ _ => rfl⟩⟩
              · cases p5 : (x5 == y5)
                · have HV := Lib.hid (HN.out ((HE.out).trans (by simp only [p1, p2, p3, p4, p5, Bool.and_false, Bool.false_and])))
                  clear HE HN HY
                  go_wp2_with fail
                  go_quiet (fail)
                  go_wp2_with fail
                  go_ret
                  exact ⟨by first | (rw [HV.out]; done) | (rw [HV.out]; rfl), ⟨rfl, rfl, rfl, Nat.le_refl _, fun _ _ => rfl⟩⟩
                · cases p6 : (x6 == y6)
                  · have HV := Lib.hid (HN.out ((HE.out).trans (by simp only [p1, p2, p3, p4, p5, p6, Bool.and_false])))
                    clear HE HN HY
                    go_wp2_with fail
                    go_quiet (fail)
                    go_wp2_with fail
                    go_ret
                    exact ⟨by first | (rw [HV.out]; done) | (rw [HV.out]; rfl), ⟨rfl, rfl, rfl, Nat.le_refl _, fun _ _ => rfl⟩⟩
                  · have HV := Lib.hid (HY.out ((HE.out).trans (by simp only [p1, p2, p3, p4, p5, p6]; rfl)))
                    clear HE HN HY
                    go_wp2_with fail
                    go_quiet (fail)
                    go_wp2_with fail
                    exact ⟨⟨k + 1, _, by omega, by go_num, rfl, HV⟩, by simp [intOf]; omega⟩
      · have HM := Lib.hid ((HF.out).symm.trans (same_allV HLEN.out (fun j g1 g2 => HT.out j g1 g2 (by omega))))
        go_wp2_with fail
        go_ret
        exact ⟨by first | (rw [HM.out]; done) | (rw [HM.out]; rfl), ⟨rfl, rfl, rfl, Nat.le_refl _, fun _ _ => rfl⟩⟩
  · rw [same_lenV hlen]
    have hlz : ¬ (l.length : Int) = (m.length : Int) := by omega
    clear hl1 hl2
    go_enter Try.func31, Try.ntmps31
    go_wp2
    go_ret
    exact ⟨rfl, Below.refl _ _⟩


/-! ### the last one -/
end Go.Proofs.Ythiofbohllmfbaa.Ch
