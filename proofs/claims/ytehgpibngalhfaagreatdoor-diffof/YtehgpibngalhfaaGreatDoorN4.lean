/- The changes from rows to others: a walk of the document's. -/
import Derived.Test.YtehgpibngalhfaaGreatDoorN3
namespace Go.Proofs.YtehgpibngalhfaaGreatDoor.Rw
open Go Go.RowKit Go.Sort Go.Lib Tg Pk Ky Qy Df

/-- What is gone, up to k; then what has come, up to k. -/
def goneTo (a b : List Row) (k : Nat) : List Chg := (((a.take k).filter (lost b)).map goneC).foldl putC []
def comeTo (a b : List Row) (k : Nat) : List Chg := (((b.take k).filter (turned a)).map comeC).foldl putC (goneTo a b a.length)
theorem goneTo_next {a b : List Row} {k : Nat} (hk : k < a.length) : goneTo a b (k + 1) = if lost b a[k] then putC (goneTo a b k) (goneC a[k]) else goneTo a b k := by
  unfold goneTo
  rw [List.take_succ_eq_append_getElem hk, List.filter_append, List.map_append, List.foldl_append]
  cases h : lost b a[k] <;> simp [h]
theorem comeTo_next {a b : List Row} {k : Nat} (hk : k < b.length) : comeTo a b (k + 1) = if turned a b[k] then putC (comeTo a b k) (comeC b[k]) else comeTo a b k := by
  unfold comeTo
  rw [List.take_succ_eq_append_getElem hk, List.filter_append, List.map_append, List.foldl_append]
  cases h : turned a b[k] <;> simp [h]
theorem goneTo_zero (a b : List Row) : goneTo a b 0 = [] := rfl
theorem comeTo_zero (a b : List Row) : comeTo a b 0 = goneTo a b a.length := rfl
theorem goneTo_len (a b : List Row) (k : Nat) : (goneTo a b k).length ≤ a.length := by
  unfold goneTo
  rw [foldC_len, List.length_map]
  have h := List.length_filter_le (lost b) (a.take k)
  rw [List.length_take] at h
  simp only [List.length_nil]; omega
theorem comeTo_len (a b : List Row) (k : Nat) : (comeTo a b k).length ≤ a.length + b.length := by
  unfold comeTo
  rw [foldC_len, List.length_map]
  have h := List.length_filter_le (turned a) (b.take k)
  have h2 := goneTo_len a b a.length
  rw [List.length_take] at h
  omega
theorem comeTo_all {a b : List Row} {k : Nat} (hk : ¬ k < b.length) : comeTo a b k = ofD a b := by
  unfold comeTo goneTo ofD
  rw [List.take_of_length_le (Nat.le_refl a.length), List.take_of_length_le (show b.length ≤ k by omega)]
theorem putC_ne (l : List Chg) (x : Chg) : putC l x ≠ [] := by
  intro h; have := putC_len l x; rw [h] at this; simp at this

theorem eqV_parts (x y : Row) (p1 p2 : Bool) (h1 : (x.n == y.n) = p1) (h2 : (x.ov == y.ov) = p2) : eqV x y = (p1 && p2) := by
  unfold eqV; rw [← h1, ← h2]; rfl
theorem own_drewN {w : World} {base T k : Nat} {v : Value} {n : Nat} {xs : List Value} (h : w.ownsRow base T k v n xs) (q : Nat) : (w.drewN q).ownsRow base T k v n xs := h

set_option maxRecDepth 100000 in
set_option maxHeartbeats 4000000 in
theorem refOf_left (v1 v2 : Value) (a : List Row) (w : World) (h1 : RRow w v1 a) (hn1 : a.length ≤ 1000) (hs1 : ∀ x ∈ a, x.grp.size ≤ 900) (hr : rright a = false) :
    Calls Tryz.prog 11 #[v1, v2] w fun e w' => e = .returned (.tuple #[.slice none 0 0, .int .i64 9]) ∧ Below w.heap.size w w' := by
  have HK := Lib.hid (refRright_any v1 a w h1 (by omega) hs1)
  rw [hr] at HK
  clear h1 hs1
  go_enter Tryz.func11, Tryz.ntmps11
  go_wp2_with fail
  refine (HK.out).mono ?_
  rintro e w2 ⟨rfl, n2⟩
  go_wp2_with fail
  go_ret2
  exact ⟨rfl, n2⟩
set_option maxRecDepth 100000 in
set_option maxHeartbeats 4000000 in
theorem refOf_right (v1 v2 : Value) (a b : List Row) (w : World) (h1 : RRow w v1 a) (h2 : RRow w v2 b) (hn1 : a.length ≤ 1000) (hn2 : b.length ≤ 1000) (hs1 : ∀ x ∈ a, x.grp.size ≤ 900) (hs2 : ∀ x ∈ b, x.grp.size ≤ 900) (hr : rright a = true) (hr2 : rright b = false) :
    Calls Tryz.prog 11 #[v1, v2] w fun e w' => e = .returned (.tuple #[.slice none 0 0, .int .i64 9]) ∧ Below w.heap.size w w' := by
  have HK := Lib.hid (refRright_any v1 a w h1 (by omega) hs1)
  have HK2 := Lib.hid (fun W (n : Below w.heap.size w W) => refRright_any v2 b W (h2.on n) (by omega) hs2)
  rw [hr] at HK
  rw [hr2] at HK2
  clear h1 hs1 h2 hs2
  go_enter Tryz.func11, Tryz.ntmps11
  go_wp2_with fail
  refine (HK.out).mono ?_
  rintro e w2 ⟨rfl, n2⟩
  go_wp2_with fail
  refine (HK2.out _ n2).mono ?_
  rintro e w3 ⟨rfl, n3⟩
  go_wp2_with fail
  go_ret2
  exact ⟨rfl, n2.trans (n3.mono n2.size)⟩

set_option maxRecDepth 100000 in
set_option maxHeartbeats 4000000 in
theorem refOf_ok (v1 v2 : Value) (a b : List Row) (w : World) (h1 : RRow w v1 a) (h2 : RRow w v2 b) (hn1 : a.length ≤ 400) (hn2 : b.length ≤ 400) (hs1 : ∀ x ∈ a, x.grp.size ≤ 900) (hs2 : ∀ x ∈ b, x.grp.size ≤ 900) (hr : rright a = true) (hr2 : rright b = true) :
    Calls Tryz.prog 11 #[v1, v2] w fun e w' => (∃ v', e = .returned (.tuple #[v', .int .i64 0]) ∧ CRow w' v' (ofD a b)) ∧ Below w.heap.size w w' := by
  have HK := Lib.hid (refRright_any v1 a w h1 (by omega) hs1)
  have HK2 := Lib.hid (fun W (n : Below w.heap.size w W) => refRright_any v2 b W (h2.on n) (by omega) hs2)
  rw [hr] at HK
  rw [hr2] at HK2
  have HF1 := Lib.hid (fun W (n : Below w.heap.size w W) r => refFind_any v2 b r W (h2.on n) (by omega))
  have HF2 := Lib.hid (fun W (n : Below w.heap.size w W) r => refFind_any v1 a r W (h1.on n) (by omega))
  obtain ⟨a1, c1, rfl, _, hl1⟩ := h1
  obtain ⟨a2, c2, rfl, _, hl2⟩ := h2
  have HL1 := Lib.hid hl1
  have HL2 := Lib.hid hl2
  clear hs1 hs2 hl1 hl2
  go_enter Tryz.func11, Tryz.ntmps11
  go_wp2_with fail
  refine (HK.out).mono ?_
  rintro e w2 ⟨rfl, n2⟩
  go_wp2_with fail
  refine (HK2.out _ n2).mono ?_
  rintro e w3 ⟨rfl, n3⟩
  have n4 := n2.trans (n3.mono n2.size)
  clear n2 n3 HK HK2
  go_wp2_with fail
  go_loopw [6, 7] (fun out i wr => ∃ (k : Nat), k ≤ a.length ∧ i = .int .i64 k ∧ Hid (wr.ownsRow w.heap.size 47 5 out (goneTo a b k).length (flatG chC (goneTo a b k))) ∧ Hid (goneTo a b k = [] → out = .slice none 0 0) ∧ Hid (Below w.heap.size w wr)) (fun _ i _ => a.length - (intOf i).toNat)
  case atStart => exact ⟨0, Nat.zero_le _, rfl, ownG_nil _ _ _, fun _ => rfl, n4⟩
  case round =>
    obtain ⟨k, hk, rfl, HO, HV, HD⟩ := hrel
    by_cases hlt : k < a.length
    · obtain ⟨b1, o1, rfl, hb, hL⟩ := HL1.out (ne_of_lt hlt)
      have HC := r_at hL k hlt
      obtain ⟨e1, e2, e3, e4⟩ := r_at (hL.on hb HD.out) k hlt
      have i1 : (k : Int) < (a.length : Int) := by omega
      have i2 : (0 : Int) ≤ (k : Int) := by omega
      have hz := (HD.out).size
      have HR := Lib.hid (goneTo_next (b := b) hlt)
      have hgl := goneTo_len a b k
      have HF := HF1.out wr HD.out a[k]
      have HFL : Hid (lost b a[k] = decide (findR b a[k] < 0)) := rfl
      generalize a[k] = x at *
      generalize findR b x = F at *
      generalize lost b x = LB at *
      generalize goneTo a b k = S at *
      obtain ⟨x1, x2, x3, x4⟩ := x
      simp only at e1 e2 e3 e4 HF
      have HF := Lib.hid HF
      clear HF1 HF2
      go_wp2_with fail
      refine (HF.out).mono ?_
      rintro e w5 ⟨rfl, g5⟩
      have n5 := g5.below
      have HO := Lib.hid (own_on HO.out n5)
      have d5 := (HD.out).trans (n5.mono hz)
      have hz := Nat.le_trans hz n5.size
      have hb1 : b1 < wr.heap.size := Nat.lt_of_lt_of_le hb (HD.out).size
      have e1 := keepC n5 e1 hb1
      have e2 := keepC n5 e2 hb1
      have e3 := keepC n5 e3 hb1
      have e4 := keepC n5 e4 hb1
      clear n5 g5 HF hL hb1 HL1 HL2
      by_cases hF : F < 0
      · have q1 : decide (F < 0) = true := decide_eq_true hF
        have HR2 := Lib.hid ((HR.out).trans (by rw [HFL.out, q1, if_pos rfl]))
        have HPN := Lib.hid (putC_ne S (goneC ⟨x1, x2, x3, x4⟩))
        have SB := fun w' (n : Below w.heap.size w w') => RL_of (w' := w') (x := ⟨x1, x2, x3, x4⟩) hb HC n
        simp only at SB
        have HIN : Hid (Calls Tryz.prog 29 #[u6, .agg #[.int .i64 x1, .string x2, .int .i64 0, .bool false, .bool true]] w5.drew fun e w' => (∃ v', e = .returned v' ∧ w'.ownsRow w.heap.size 47 5 v' (putC S (goneC ⟨x1, x2, x3, x4⟩)).length (flatG chC (putC S (goneC ⟨x1, x2, x3, x4⟩)))) ∧ Below w.heap.size w w') := refInto_any w.heap.size u6 S (goneC ⟨x1, x2, x3, x4⟩) w w5.drew hz d5.drew HO.out.drew HV.out (by omega)
        have hS := SB _ d5.drew
        generalize putC S (goneC ⟨x1, x2, x3, x4⟩) = S2 at *
        clear HR HFL HO HV HD HC e1 e2 e3 e4
        go_wp2_with fail
        go_region_held3 (fun w' => w'.cell? ⟨b1, o1 + k * 4, none⟩ = some (.int .i64 x1) ∧ w'.cell? ⟨b1, o1 + k * 4 + 1, none⟩ = some (.string x2) ∧ w'.cell? ⟨b1, o1 + k * 4 + 2, none⟩ = some (.int .i64 x3) ∧ w'.cell? ⟨b1, o1 + k * 4 + 3, none⟩ = some (.bool x4) ∧ Below w.heap.size w w') (first | exact hS | exact hS6) (first
          | (go_at_call 29; refine (HIN.out).mono ?_; rintro e w6 ⟨⟨v6, rfl, HO6⟩, d6⟩; have hS6 := SB _ d6; have HO6 := Lib.hid HO6)
          | fail)
        clear hS hS6 HIN SB
        go_wp2_with fail
        exact ⟨⟨k + 1, by omega, by go_num, by rw [HR2.out]; exact HO6, by rw [HR2.out]; exact fun h => absurd h HPN.out, d6⟩, by simp [intOf]; omega⟩
      · have q1 : decide (F < 0) = false := decide_eq_false hF
        have HR2 := Lib.hid ((HR.out).trans (by rw [HFL.out, q1, if_neg (by simp)]))
        clear HR HFL
        go_wp2_with fail
        exact ⟨⟨k + 1, by omega, by go_num, by rw [HR2.out]; exact HO, by rw [HR2.out]; exact HV, d5⟩, by simp [intOf]; omega⟩
    · have i1 : ¬ (k : Int) < (a.length : Int) := by omega
      have hka : k = a.length := by omega
      subst hka
      have HO := Lib.hid (show wr.ownsRow w.heap.size 47 5 u6 (comeTo a b 0).length (flatG chC (comeTo a b 0)) from HO.out)
      have HV := Lib.hid (show comeTo a b 0 = [] → u6 = .slice none 0 0 from HV.out)
      go_wp2_with fail
      go_loopw [6, 8] (fun out i wr => ∃ (k : Nat), k ≤ b.length ∧ i = .int .i64 k ∧ Hid (wr.ownsRow w.heap.size 47 5 out (comeTo a b k).length (flatG chC (comeTo a b k))) ∧ Hid (comeTo a b k = [] → out = .slice none 0 0) ∧ Hid (Below w.heap.size w wr)) (fun _ i _ => b.length - (intOf i).toNat)
      case atStart => exact ⟨0, Nat.zero_le _, rfl, HO, HV, HD⟩
      case round =>
        obtain ⟨k, hk, rfl, HO, HV, HD⟩ := hrel
        by_cases hlt : k < b.length
        · obtain ⟨b1, o1, rfl, hb, hL⟩ := HL2.out (ne_of_lt hlt)
          have HC := r_at hL k hlt
          obtain ⟨e1, e2, e3, e4⟩ := r_at (hL.on hb HD.out) k hlt
          have i1 : (k : Int) < (b.length : Int) := by omega
          have i2 : (0 : Int) ≤ (k : Int) := by omega
          have hz := (HD.out).size
          have HR := Lib.hid (comeTo_next (a := a) hlt)
          have hgl := comeTo_len a b k
          have HF := HF2.out wr HD.out b[k]
          have HTU : Hid (turned a b[k] = (decide (findR a b[k] < 0) || !eqV (a.getD (findR a b[k]).toNat zrow) b[k])) := rfl
          have hcs := findR_cases a b[k]
          generalize b[k] = x at *
          generalize comeTo a b k = S at *
          clear HF1 HF2
          rcases hcs with ⟨h1, _⟩ | ⟨j, hj, h1, _, _⟩
          · have HM := Lib.hid ((HR.out).trans (by rw [HTU.out, h1]))
            rw [h1] at HF
            clear h1 HR HTU
            obtain ⟨x1, x2, x3, x4⟩ := x
            simp only at e1 e2 e3 e4 HF
            have HF := Lib.hid HF
            go_wp2_with fail
            refine (HF.out).mono ?_
            rintro e w5 ⟨rfl, g5⟩
            have n5 := g5.below
            have HO := Lib.hid (own_on HO.out n5)
            have d5 := (HD.out).trans (n5.mono hz)
            have hz := Nat.le_trans hz n5.size
            have hb1 : b1 < wr.heap.size := Nat.lt_of_lt_of_le hb (HD.out).size
            have e1 := keepC n5 e1 hb1
            have e2 := keepC n5 e2 hb1
            have e3 := keepC n5 e3 hb1
            have e4 := keepC n5 e4 hb1
            clear n5 g5 HF hL hb1 HL2
            clear HL1
            have HPN := Lib.hid (putC_ne S (comeC ⟨x1, x2, x3, x4⟩))
            have SB := fun w' (n : Below w.heap.size w w') => RL_of (w' := w') (x := ⟨x1, x2, x3, x4⟩) hb HC n
            simp only at SB
            have HIN : Hid (∀ W, Below w.heap.size w W → W.ownsRow w.heap.size 47 5 u6 S.length (flatG chC S) → Calls Tryz.prog 29 #[u6, .agg #[.int .i64 x1, .string x2, .int .i64 x3, .bool x4, .bool false]] W fun e w' => (∃ v', e = .returned v' ∧ w'.ownsRow w.heap.size 47 5 v' (putC S (comeC ⟨x1, x2, x3, x4⟩)).length (flatG chC (putC S (comeC ⟨x1, x2, x3, x4⟩)))) ∧ Below w.heap.size w w') := fun W dW OW => refInto_any w.heap.size u6 S (comeC ⟨x1, x2, x3, x4⟩) w W (Nat.le_trans (Nat.le_refl _) dW.size) dW OW HV.out (by omega)
            generalize putC S (comeC ⟨x1, x2, x3, x4⟩) = S2 at *
            clear HV HC
            go_wp2_with fail
            go_quiet (fail)
            have HIN2 := Lib.hid (HIN.out _ (below_drewN d5 nq) (own_drewN HO.out nq))
            clear HIN SB
            go_wp2_with fail
            refine (HIN2.out).mono ?_
            rintro e w6 ⟨⟨v6, rfl, HO6⟩, d6⟩
            have HO6 := Lib.hid HO6
            clear HIN2
            go_wp2_with fail
            exact ⟨⟨k + 1, by omega, by go_num, by rw [HM.out]; exact HO6, by rw [HM.out]; exact fun h => absurd h HPN.out, d6⟩, by simp [intOf]; omega⟩
          · rw [h1] at HF
            have hgd : a.getD (j : Int).toNat zrow = a[j] := by simp [List.getD, hj]
            have hjn : decide ((j : Int) < 0) = false := decide_eq_false (by omega)
            have HTU2 : Hid (turned a x = !eqV a[j] x) := (HTU.out).trans (by rw [h1, hgd, hjn]; rfl)
            have j1 : (j : Int) < (a.length : Int) := by omega
            have j2 : (0 : Int) ≤ (j : Int) := by omega
            have HEV := Lib.hid (eqV_parts a[j] x _ _ rfl rfl)
            obtain ⟨b3, o3, rfl, hb3, hL3⟩ := HL1.out (ne_of_lt hj)
            clear h1 HTU hgd
            obtain ⟨x1, x2, x3, x4⟩ := x
            simp only at e1 e2 e3 e4 HF
            have HF := Lib.hid HF
            go_wp2_with fail
            refine (HF.out).mono ?_
            rintro e w5 ⟨rfl, g5⟩
            have n5 := g5.below
            have HO := Lib.hid (own_on HO.out n5)
            have d5 := (HD.out).trans (n5.mono hz)
            have hz := Nat.le_trans hz n5.size
            have hb1 : b1 < wr.heap.size := Nat.lt_of_lt_of_le hb (HD.out).size
            have e1 := keepC n5 e1 hb1
            have e2 := keepC n5 e2 hb1
            have e3 := keepC n5 e3 hb1
            have e4 := keepC n5 e4 hb1
            clear n5 g5 HF hL hb1 HL2
            obtain ⟨f1, f2, f3, f4⟩ := r_at (hL3.on hb3 d5) j hj
            clear hL3 HL1
            generalize a[j] = y at *
            obtain ⟨y1, y2, y3, y4⟩ := y
            simp only at f1 f2 f3 f4 HEV
            cases p3 : (y3 == x3)
            · have HM := Lib.hid ((HR.out).trans (by rw [HTU2.out, HEV.out, p3] <;> rfl))
              clear HR HTU2 HEV
              have HPN := Lib.hid (putC_ne S (comeC ⟨x1, x2, x3, x4⟩))
              have SB := fun w' (n : Below w.heap.size w w') => RL_of (w' := w') (x := ⟨x1, x2, x3, x4⟩) hb HC n
              simp only at SB
              have HIN : Hid (∀ W, Below w.heap.size w W → W.ownsRow w.heap.size 47 5 u6 S.length (flatG chC S) → Calls Tryz.prog 29 #[u6, .agg #[.int .i64 x1, .string x2, .int .i64 x3, .bool x4, .bool false]] W fun e w' => (∃ v', e = .returned v' ∧ w'.ownsRow w.heap.size 47 5 v' (putC S (comeC ⟨x1, x2, x3, x4⟩)).length (flatG chC (putC S (comeC ⟨x1, x2, x3, x4⟩)))) ∧ Below w.heap.size w w') := fun W dW OW => refInto_any w.heap.size u6 S (comeC ⟨x1, x2, x3, x4⟩) w W (Nat.le_trans (Nat.le_refl _) dW.size) dW OW HV.out (by omega)
              generalize putC S (comeC ⟨x1, x2, x3, x4⟩) = S2 at *
              clear HV HC
              go_wp2_with fail
              go_quiet (fail)
              have HIN2 := Lib.hid (HIN.out _ (below_drewN d5 nq) (own_drewN HO.out nq))
              clear HIN SB
              go_wp2_with fail
              refine (HIN2.out).mono ?_
              rintro e w6 ⟨⟨v6, rfl, HO6⟩, d6⟩
              have HO6 := Lib.hid HO6
              clear HIN2
              go_wp2_with fail
              exact ⟨⟨k + 1, by omega, by go_num, by rw [HM.out]; exact HO6, by rw [HM.out]; exact fun h => absurd h HPN.out, d6⟩, by simp [intOf]; omega⟩
            · cases p4 : (y4 == x4)
              · have HM := Lib.hid ((HR.out).trans (by rw [HTU2.out, HEV.out, p3, p4] <;> rfl))
                clear HR HTU2 HEV
                have HPN := Lib.hid (putC_ne S (comeC ⟨x1, x2, x3, x4⟩))
                have SB := fun w' (n : Below w.heap.size w w') => RL_of (w' := w') (x := ⟨x1, x2, x3, x4⟩) hb HC n
                simp only at SB
                have HIN : Hid (∀ W, Below w.heap.size w W → W.ownsRow w.heap.size 47 5 u6 S.length (flatG chC S) → Calls Tryz.prog 29 #[u6, .agg #[.int .i64 x1, .string x2, .int .i64 x3, .bool x4, .bool false]] W fun e w' => (∃ v', e = .returned v' ∧ w'.ownsRow w.heap.size 47 5 v' (putC S (comeC ⟨x1, x2, x3, x4⟩)).length (flatG chC (putC S (comeC ⟨x1, x2, x3, x4⟩)))) ∧ Below w.heap.size w w') := fun W dW OW => refInto_any w.heap.size u6 S (comeC ⟨x1, x2, x3, x4⟩) w W (Nat.le_trans (Nat.le_refl _) dW.size) dW OW HV.out (by omega)
                generalize putC S (comeC ⟨x1, x2, x3, x4⟩) = S2 at *
                clear HV HC
                go_wp2_with fail
                go_quiet (fail)
                have HIN2 := Lib.hid (HIN.out _ (below_drewN d5 nq) (own_drewN HO.out nq))
                clear HIN SB
                go_wp2_with fail
                refine (HIN2.out).mono ?_
                rintro e w6 ⟨⟨v6, rfl, HO6⟩, d6⟩
                have HO6 := Lib.hid HO6
                clear HIN2
                go_wp2_with fail
                exact ⟨⟨k + 1, by omega, by go_num, by rw [HM.out]; exact HO6, by rw [HM.out]; exact fun h => absurd h HPN.out, d6⟩, by simp [intOf]; omega⟩
              · have HM := Lib.hid ((HR.out).trans (by rw [HTU2.out, HEV.out, p3, p4] <;> rfl))
                clear HR HTU2 HEV HC
                go_wp2_with fail
                go_quiet (fail)
                go_wp2_with fail
                exact ⟨⟨k + 1, by omega, by go_num, by rw [HM.out]; exact own_drewN HO.out _, by rw [HM.out]; exact HV, below_drewN d5 _⟩, by simp [intOf]; omega⟩
        · have i1 : ¬ (k : Int) < (b.length : Int) := by omega
          have hr := ownG_row chC_len HO.out
          rw [comeTo_all hlt] at hr
          have HRR := Lib.hid hr
          go_wp2_with fail
          go_ret2
          exact ⟨⟨_, rfl, HRR.out⟩, HD.out⟩
/-- The document's changes from a to b. -/
theorem refOf_any (v1 v2 : Value) (a b : List Row) (w : World) (h1 : RRow w v1 a) (h2 : RRow w v2 b) (hn1 : a.length ≤ 400) (hn2 : b.length ≤ 400) (hs1 : ∀ x ∈ a, x.grp.size ≤ 900) (hs2 : ∀ x ∈ b, x.grp.size ≤ 900) :
    Calls Tryz.prog 11 #[v1, v2] w fun e w' => (∃ v', e = .returned (.tuple #[v', .int .i64 (ofE a b).2]) ∧ CRow w' v' (ofE a b).1) ∧ Below w.heap.size w w' := by
  cases ha : rright a
  · rw [ofE_left ha]
    refine (refOf_left v1 v2 a w h1 (by omega) hs1 ha).mono ?_
    rintro e w' ⟨rfl, n⟩
    exact ⟨⟨_, rfl, GRow.nil _⟩, n⟩
  · cases hb : rright b
    · rw [ofE_right hb]
      refine (refOf_right v1 v2 a b w h1 h2 (by omega) (by omega) hs1 hs2 ha hb).mono ?_
      rintro e w' ⟨rfl, n⟩
      exact ⟨⟨_, rfl, GRow.nil _⟩, n⟩
    · rw [ofE_ok ha hb]
      exact refOf_ok v1 v2 a b w h1 h2 hn1 hn2 hs1 hs2 ha hb

end Go.Proofs.YtehgpibngalhfaaGreatDoor.Rw
