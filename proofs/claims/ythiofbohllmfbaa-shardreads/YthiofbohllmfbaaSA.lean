/- One entry ahead of a window's key; dropped; items, the same; how many versions; too great: walks of the document's. -/
import Derived.Test.YthiofbohllmfbaaS1
namespace Go.Proofs.Ythiofbohllmfbaa.Sh
open Go Go.RowKit Go.Sort Go.Lib Cl Ce Ch

set_option maxRecDepth 100000 in
set_option maxHeartbeats 1000000 in
theorem refLess_any (w1 w2 : Int) (k1 k2 : ByteArray) (a : Option Addr) (n c : Nat) (W : World) :
    Calls Try.prog 29 #[.agg #[.int .i64 w1, .string k1, .slice a n c], .int .i64 w2, .string k2] W fun e w' => e = .returned (.bool (plt w1 k1 w2 k2)) ∧ Below W.heap.size W w' := by
  have g0 := Lib.hid (aBelow W (.cells #[.int .i64 w1, .string k1, .slice a n c] 59))
  by_cases h : w1 < w2
  · rw [show plt w1 k1 w2 k2 = true by unfold plt; simp [h]]
    have hd : decide (w1 < w2) = true := decide_eq_true h
    go_enter Try.func29, Try.ntmps29
    go_wp2
    go_ret
    exact ⟨by first | rfl | simp [hd], g0.out⟩
  · have hd : decide (w1 < w2) = false := decide_eq_false h
    by_cases h' : w1 = w2
    · rw [show plt w1 k1 w2 k2 = less k1.data.toList k2.data.toList by unfold plt; simp [h']]
      have hb : (w1 == w2) = true := by simp [h']
      have hl : Op.bytesLess k1.toList k2.toList = less k1.data.toList k2.data.toList := by rw [ByteArray.toList_eq, ByteArray.toList_eq]
      generalize less k1.data.toList k2.data.toList = A at *
      subst h'
      go_enter Try.func29, Try.ntmps29
      go_wp2
      go_ret
      exact ⟨by first | rfl | (simp; exact hl) | (simp [hl]), g0.out⟩
    · rw [show plt w1 k1 w2 k2 = false by unfold plt; simp [h, h']]
      have hb : (w1 == w2) = false := by simp [h']
      go_enter Try.func29, Try.ntmps29
      go_wp2
      go_ret
      exact ⟨by first | rfl | simp [hd], g0.out⟩

set_option maxRecDepth 100000 in
set_option maxHeartbeats 2000000 in
theorem refDropped_any (v : Value) (l : List Drp) (wi s : Int) (w : World) (h : DRow w v l) (hn : l.length ≤ 1000000) :
    Calls Try.prog 39 #[v, .int .i64 wi, .int .i64 s] w fun e w' => e = .returned (.bool (dropped l wi s)) ∧ w' = w := by
  obtain ⟨a, c, rfl, hc, hl⟩ := h
  have HL := Lib.hid hl
  obtain ⟨F, HF⟩ : ∃ F, Hid (dropped l wi s = F) := ⟨_, rfl⟩
  rw [HF.out]
  clear hl
  go_enter Try.func39, Try.ntmps39
  go_wp2_with fail
  go_loopw [7] (fun i wr => ∃ k : Nat, k ≤ l.length ∧ i = .int .i64 k ∧ w = wr ∧ Hid (∀ j (hj : j < l.length), j < k → dhit wi s l[j] = false)) (fun i _ => l.length - (intOf i).toNat)
  case atStart => exact ⟨0, Nat.zero_le _, rfl, rfl, fun j _ hj => absurd hj (Nat.not_lt_zero j)⟩
  case round =>
    obtain ⟨k, hk, rfl, rfl, HT⟩ := hrel
    by_cases hlt : k < l.length
    · obtain ⟨b, o, rfl, hb, hL⟩ := HL.out (ne_of_lt hlt)
      obtain ⟨e1, e2⟩ := d_at hL k hlt
      have i1 : (k : Int) < (l.length : Int) := by omega
      have i2 : (0 : Int) ≤ (k : Int) := by omega
      have HX : Hid (dhit wi s l[k] = true → F = true) := fun h => (HF.out).symm.trans (dropped_hit hlt h)
      have HN : Hid (dhit wi s l[k] = false → ∀ j (hj : j < l.length), j < k + 1 → dhit wi s l[j] = false) := fun h j hj hjk => by
        by_cases q : j < k
        · exact HT.out j hj q
        · have : j = k := by omega
          subst this; exact h
      generalize l[k] = x at *
      obtain ⟨x0, x1⟩ := x
      simp only at e1 e2
      clear hL HL HT
      by_cases c1 : x0 = wi
      · have q1 : (x0 == wi) = true := by simp [c1]
        by_cases c2 : x1 ≤ s
        · have q2 : decide (x1 ≤ s) = true := decide_eq_true c2
          have HM := Lib.hid (HX.out (by unfold dhit; simp [c1, c2]))
          clear HX HN c1
          go_wp2_with fail
          go_ret
          exact ⟨by first | (rw [HM.out]; done) | (rw [HM.out]; rfl), rfl⟩
        · have q2 : decide (x1 ≤ s) = false := decide_eq_false c2
          have HM := Lib.hid (HN.out (by unfold dhit; simp [c2]))
          clear HX HN c1
          go_wp2_with fail
          exact ⟨⟨k + 1, by omega, by go_num, by trivial, HM⟩, by simp [intOf]; omega⟩
      · have q1 : (x0 == wi) = false := by simp [c1]
        have HM := Lib.hid (HN.out (by unfold dhit; simp [c1]))
        clear HX HN
        go_wp2_with fail
        exact ⟨⟨k + 1, by omega, by go_num, by trivial, HM⟩, by simp [intOf]; omega⟩
    · have HM := Lib.hid ((HF.out).symm.trans (dropped_not fun j hj => HT.out j hj (by omega)))
      have i1 : ¬ (k : Int) < (l.length : Int) := by omega
      go_wp2_with fail
      go_ret
      exact ⟨by first | (rw [HM.out]; done) | (rw [HM.out]; rfl), rfl⟩

/-! ### items -/
set_option maxRecDepth 100000 in
set_option maxHeartbeats 2000000 in
theorem refItems_any (v1 v2 : Value) (l m : List Itm) (w : World) (h1 : IRow w v1 l) (h2 : IRow w v2 m) (hn : l.length ≤ 1000000) :
    Calls Try.prog 17 #[v1, v2] w fun e w' => e = .returned (.bool (sameI l m)) ∧ Below w.heap.size w w' := by
  obtain ⟨a1, c1, rfl, _, hl1⟩ := h1
  obtain ⟨a2, c2, rfl, _, hl2⟩ := h2
  by_cases hlen : l.length = m.length
  · have HL1 := Lib.hid hl1
    have HL2 := Lib.hid hl2
    obtain ⟨F, HF⟩ : ∃ F, Hid (sameI l m = F) := ⟨_, rfl⟩
    rw [HF.out]
    have HLEN := Lib.hid hlen
    rw [← hlen]
    clear hl1 hl2 hlen
    go_enter Try.func17, Try.ntmps17
    go_wp2
    go_loopw [5] (fun i wr => ∃ k nq : Nat, k ≤ l.length ∧ i = .int .i64 k ∧ wr = w.drewN nq ∧ Hid (∀ j (h1 : j < l.length) (h2 : j < m.length), j < k → eqI l[j] m[j] = true)) (fun i _ => l.length - (intOf i).toNat)
    case atStart => exact ⟨0, 0, Nat.zero_le _, rfl, rfl, fun j _ _ hj => absurd hj (Nat.not_lt_zero j)⟩
    case round =>
      obtain ⟨k, nq, hk, rfl, rfl, HT⟩ := hrel
      by_cases hlt : k < l.length
      · have hlt2 : k < m.length := by have := HLEN.out; omega
        obtain ⟨b1, o1, rfl, hb1, L1⟩ := HL1.out (ne_of_lt hlt)
        obtain ⟨b2, o2, rfl, hb2, L2⟩ := HL2.out (ne_of_lt hlt2)
        obtain ⟨e1, e2, e3, e4, e5, e6, e7⟩ := im_at L1 k hlt
        obtain ⟨f1, f2, f3, f4, f5, f6, f7⟩ := im_at L2 k hlt2
        have i1 : (k : Int) < (l.length : Int) := by omega
        have i2 : (0 : Int) ≤ (k : Int) := by omega
        have HN : Hid (eqI l[k] m[k] = false → F = false) := fun h => (HF.out).symm.trans (same_notI hlt hlt2 h)
        have HY : Hid (eqI l[k] m[k] = true → ∀ j (h1 : j < l.length) (h2 : j < m.length), j < k + 1 → eqI l[j] m[j] = true) := fun h j g1 g2 g3 => by
          by_cases hj : j < k
          · exact HT.out j g1 g2 hj
          · have : j = k := by omega
            subst this; exact h
        have HE := Lib.hid (eq_partsI l[k] m[k] _ _ _ _ _ _ _ rfl rfl rfl rfl rfl rfl rfl)
        generalize l[k] = x at *
        generalize m[k] = y at *
        obtain ⟨x1, x2, ⟨x3, x4, x5, x6, x7⟩⟩ := x
        obtain ⟨y1, y2, ⟨y3, y4, y5, y6, y7⟩⟩ := y
        simp only at e1 f1 e2 f2 e3 f3 e4 f4 e5 f5 e6 f6 e7 f7 HE
        clear L1 L2 hb1 hb2 HL1 HL2 HT
        cases p1 : (x1 == y1)
        · have HV := Lib.hid (HN.out ((HE.out).trans (by simp only [p1, Bool.false_and])))
          clear HE HN HY
          go_wp2_with fail
          go_quiet (fail)
          go_wp2_with fail
          go_ret
          exact ⟨by first | (rw [HV.out]; done) | (rw [HV.out]; rfl), ⟨rfl, rfl, rfl, Nat.le_refl _, fun _ _ => rfl⟩⟩
        · cases p2 : (x2.toList == y2.toList)
          · have HV := Lib.hid (HN.out ((HE.out).trans (by simp only [p1, p2, Bool.and_false, Bool.false_and])))
            clear HE HN HY
            go_wp2_with fail
            go_quiet (fail)
            go_wp2_with fail
            go_ret
            exact ⟨by first | (rw [HV.out]; done) | (rw [HV.out]; rfl), ⟨rfl, rfl, rfl, Nat.le_refl _, fun _ _ => rfl⟩⟩
          · cases p3 : (x3 == y3)
            · have HV := Lib.hid (HN.out ((HE.out).trans (by simp only [p1, p2, p3, Bool.and_false, Bool.false_and])))
              clear HE HN HY
              go_wp2_with fail
              go_quiet (fail)
              go_wp2_with fail
              go_ret
              exact ⟨by first | (rw [HV.out]; done) | (rw [HV.out]; rfl), ⟨rfl, rfl, rfl, Nat.le_refl _, fun _ _ => rfl⟩⟩
            · cases p4 : (x4 == y4)
              · have HV := Lib.hid (HN.out ((HE.out).trans (by simp only [p1, p2, p3, p4, Bool.and_false, Bool.false_and])))
                clear HE HN HY
                go_wp2_with fail
                go_quiet (fail)
                go_wp2_with fail
                go_ret
                exact ⟨by first | (rw [HV.out]; done) | (rw [HV.out]; rfl), ⟨rfl, rfl, rfl, Nat.le_refl _, fun _ _ => rfl⟩⟩
              · cases p5 : (x5 == y5)
                · have HV := Lib.hid (HN.out ((HE.out).trans (by simp only [p1, p2, p3, p4, p5, Bool.and_false, Bool.false_and])))
                  clear HE HN HY
                  go_wp2_with fail
                  go_quiet (fail)
                  go_wp2_with fail
                  go_ret
                  exact ⟨by first | (rw [HV.out]; done) | (rw [HV.out]; rfl), ⟨rfl, rfl, rfl, Nat.le_refl _, fun _ _ => rfl⟩⟩
                · cases p6 : (x6 == y6)
                  · have HV := Lib.hid (HN.out ((HE.out).trans (by simp only [p1, p2, p3, p4, p5, p6, Bool.and_false, Bool.false_and])))
                    clear HE HN HY
                    go_wp2_with fail
                    go_quiet (fail)
                    go_wp2_with fail
                    go_ret
                    exact ⟨by first | (rw [HV.out]; done) | (rw [HV.out]; rfl), ⟨rfl, rfl, rfl, Nat.le_refl _, fun _ _ => rfl⟩⟩
                  · cases p7 : (x7 == y7)
                    · have HV := Lib.hid (HN.out ((HE.out).trans (by simp only [p1, p2, p3, p4, p5, p6, p7, Bool.and_false])))
                      clear HE HN HY
                      go_wp2_with fail
                      go_quiet (fail)
                      go_wp2_with fail
                      go_ret
                      exact ⟨by first | (rw [HV.out]; done) | (rw [HV.out]; rfl), ⟨rfl, rfl, rfl, Nat.le_refl _, fun _ _ => rfl⟩⟩
                    · have HV := Lib.hid (HY.out ((HE.out).trans (by simp only [p1, p2, p3, p4, p5, p6, p7]; rfl)))
                      clear HE HN HY
                      go_wp2_with fail
                      go_quiet (fail)
                      go_wp2_with fail
                      exact ⟨⟨k + 1, _, by omega, by go_num, rfl, HV⟩, by simp [intOf]; omega⟩
      · have HM := Lib.hid ((HF.out).symm.trans (same_allI HLEN.out (fun j g1 g2 => HT.out j g1 g2 (by omega))))
        go_wp2_with fail
        go_ret
        exact ⟨by first | (rw [HM.out]; done) | (rw [HM.out]; rfl), ⟨rfl, rfl, rfl, Nat.le_refl _, fun _ _ => rfl⟩⟩
  · rw [same_lenI hlen]
    have hlz : ¬ (l.length : Int) = (m.length : Int) := by omega
    clear hl1 hl2
    go_enter Try.func17, Try.ntmps17
    go_wp2
    go_ret
    exact ⟨rfl, Below.refl _ _⟩


/-! ### how many versions; too great -/
set_option maxRecDepth 100000 in
set_option maxHeartbeats 2000000 in
theorem refSize_any (v : Value) (l : List Ent) (w : World) (h : SRow w v l) (hn : l.length ≤ 1000) (hv : ∀ e ∈ l, e.vs.length ≤ 1000000) :
    Calls Try.prog 20 #[.agg #[v]] w fun e w' => e = .returned (.int .i64 (sizeS l)) ∧ Below w.heap.size w w' := by
  obtain ⟨a, c, rfl, hc, hl⟩ := h.at
  have d0 := Lib.hid (aBelow w (.cells #[.slice a l.length c] 24))
  have HL := Lib.hid (hl.on d0.out)
  have HV := Lib.hid (fun k (hk : k < l.length) => hv _ (List.getElem_mem hk))
  have HZ := Lib.hid (fun k (hk : k ≤ l.length) => Nat.le_trans (sizeS_le (l := l.take k) (n := 1000000) (fun e he => hv e (List.mem_of_mem_take he))) (Nat.mul_le_mul_right _ (show (l.take k).length ≤ 1000 by rw [List.length_take]; omega)))
  clear h hl hv
  go_enter Try.func20, Try.ntmps20
  go_wp2_with fail
  have B0 : (w.alloc (.cells #[.slice a l.length c] 24)).cell? ⟨w.heap.size, 0, none⟩ = some (.slice a l.length c) := by simp
  generalize w.alloc (.cells #[.slice a l.length c] 24) = w0 at *
  generalize hxb : w.heap.size = xb at *
  have HXB := Lib.hid hxb
  clear hxb
  go_loopw [3, 4] (fun m i wr => ∃ k : Nat, k ≤ l.length ∧ i = .int .i64 k ∧ m = .int .i64 (sizeS (l.take k)) ∧ w0 = wr) (fun _ i _ => l.length - (intOf i).toNat)
  case atStart => exact ⟨0, Nat.zero_le _, rfl, rfl, rfl⟩
  case round =>
    obtain ⟨k, hk, rfl, rfl, rfl⟩ := hrel
    by_cases hlt : k < l.length
    · obtain ⟨b, o, rfl, hb, hL⟩ := HL.out (ne_of_lt hlt)
      obtain ⟨sl, e1, e2, e3, hr⟩ := hL k hlt
      have HN := Lib.hid (sizeS_next hlt)
      have hz := HZ.out k hk
      have hz2 := HV.out k hlt
      have i1 : (k : Int) < (l.length : Int) := by omega
      have i2 : (0 : Int) ≤ (k : Int) := by omega
      obtain ⟨a2, c2, rfl, -, -⟩ := hr
      generalize sizeS (l.take k) = S at *
      generalize (l[k]).vs.length = D at *
      have i3 : IntKind.i64.wrap ((S : Int) + (D : Int)) = (S : Int) + (D : Int) := by rw [IntKind.wrap_i64]; omega
      clear hL HL hb hz hz2 e1 e2
      go_wp2_with fail
      exact ⟨⟨k + 1, by omega, by go_num, by rw [HN.out, Int.natCast_add], by trivial⟩, by simp [intOf]; omega⟩
    · have i1 : ¬ (k : Int) < (l.length : Int) := by omega
      have hka : k = l.length := by omega
      have HT : Hid (l.take k = l) := List.take_of_length_le (by omega)
      generalize hS : sizeS (l.take k) = S at *
      have HS : Hid (sizeS l = S) := by rw [HT.out] at hS; exact hS
      have e := HXB.out
      subst e
      go_wp2_with fail
      go_ret
      exact ⟨by rw [HS.out]; rfl, d0.out⟩

set_option maxRecDepth 100000 in
set_option maxHeartbeats 2000000 in
theorem great_any (v : Value) (l : List Ent) (w : World) (h : SRow w v l) :
    Calls Try.prog 9 #[.agg #[v]] w fun e w' => e = .returned (.bool (greatS l)) ∧ Below w.heap.size w w' := by
  obtain ⟨a, c, rfl, hc, hl⟩ := h.at
  have d0 := Lib.hid (aBelow w (.cells #[.slice a l.length c] 24))
  by_cases h0 : 100 < l.length
  · rw [greatS_long h0]
    have q0 : decide ((100 : Int) < (l.length : Int)) = true := decide_eq_true (by omega)
    have q1 : (100 : Int) < (l.length : Int) := by omega
    clear hl h
    go_enter Try.func9, Try.ntmps9
    go_wp2_with fail
    go_ret
    exact ⟨rfl, d0.out⟩
  · have q1 : ¬ (100 : Int) < (l.length : Int) := by omega
    have HL := Lib.hid (hl.on d0.out)
    obtain ⟨F, HF⟩ : ∃ F, Hid (greatS l = F) := ⟨_, rfl⟩
    rw [HF.out]
    clear h hl
    go_enter Try.func9, Try.ntmps9
    go_wp2_with fail
    have B0 : (w.alloc (.cells #[.slice a l.length c] 24)).cell? ⟨w.heap.size, 0, none⟩ = some (.slice a l.length c) := by simp
    generalize w.alloc (.cells #[.slice a l.length c] 24) = w0 at *
    generalize hxb : w.heap.size = xb at *
    have HXB := Lib.hid hxb
    clear hxb
    go_loopw [3] (fun i wr => ∃ k : Nat, k ≤ l.length ∧ i = .int .i64 k ∧ w0 = wr ∧ Hid (∀ j (hj : j < l.length), j < k → greatE l[j] = false)) (fun i _ => l.length - (intOf i).toNat)
    case atStart => exact ⟨0, Nat.zero_le _, rfl, rfl, fun j _ hj => absurd hj (Nat.not_lt_zero j)⟩
    case round =>
      obtain ⟨k, hk, rfl, rfl, HT⟩ := hrel
      by_cases hlt : k < l.length
      · obtain ⟨b, o, rfl, hb, hL⟩ := HL.out (ne_of_lt hlt)
        obtain ⟨sl, e1, e2, e3, hr⟩ := hL k hlt
        have i1 : (k : Int) < (l.length : Int) := by omega
        have i2 : (0 : Int) ≤ (k : Int) := by omega
        have HX : Hid (greatE l[k] = true → F = true) := fun h => (HF.out).symm.trans (greatS_hit hlt h)
        have HN : Hid (greatE l[k] = false → ∀ j (hj : j < l.length), j < k + 1 → greatE l[j] = false) := fun h j hj hjk => by
          by_cases q : j < k
          · exact HT.out j hj q
          · have : j = k := by omega
            subst this; exact h
        obtain ⟨a2, c2, rfl, -, -⟩ := hr
        generalize l[k] = x at *
        obtain ⟨x0, x1, x2⟩ := x
        simp only at e1 e2 e3
        clear hL HL HT hb
        by_cases c1 : 100 < x2.length
        · have q2 : decide ((100 : Int) < (x2.length : Int)) = true := decide_eq_true (by omega)
          have HM := Lib.hid (HX.out (by unfold greatE; simp [c1]))
          have e := HXB.out
          subst e
          clear HX HN c1
          go_wp2_with fail
          go_ret
          exact ⟨by first | (rw [HM.out]; done) | (rw [HM.out]; rfl), d0.out⟩
        · have q2 : decide ((100 : Int) < (x2.length : Int)) = false := decide_eq_false (by omega)
          by_cases c2 : 300 < x1.size
          · have q3 : decide ((300 : Int) < (x1.size : Int)) = true := decide_eq_true (by omega)
            have HM := Lib.hid (HX.out (by unfold greatE; simp [c2]))
            have e := HXB.out
            subst e
            clear HX HN c1 c2
            go_wp2_with fail
            go_ret
            exact ⟨by first | (rw [HM.out]; done) | (rw [HM.out]; rfl), d0.out⟩
          · have q3 : decide ((300 : Int) < (x1.size : Int)) = false := decide_eq_false (by omega)
            have HM := Lib.hid (HN.out (by unfold greatE; simp [c1, c2]))
            clear HX HN c1 c2
            go_wp2_with fail
            exact ⟨⟨k + 1, by omega, by go_num, by trivial, HM⟩, by simp [intOf]; omega⟩
      · have HM := Lib.hid ((HF.out).symm.trans (greatS_none h0 fun j hj => HT.out j hj (by omega)))
        have i1 : ¬ (k : Int) < (l.length : Int) := by omega
        have e := HXB.out
        subst e
        go_wp2_with fail
        go_ret
        exact ⟨by first | (rw [HM.out]; done) | (rw [HM.out]; rfl), d0.out⟩
end Go.Proofs.Ythiofbohllmfbaa.Sh
