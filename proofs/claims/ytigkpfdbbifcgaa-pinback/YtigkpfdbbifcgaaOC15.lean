/- The program's own Add: walks of it, of byId and of the library's BinarySearchFunc; what the walks are held to. -/
import Derived.Test.YtigkpfdbbifcgaaOB15
import Derived.Test.YtigkpfdbbifcgaaOI15
namespace Go.Proofs.Ytigkpfdbbifcgaa.Pj
open Go Go.RowKit Go.Sort Go.Lib

/-! ### how two Ids compare -/
def cmpI (a b : Int) : Int := if a < b then -1 else if b < a then 1 else 0
theorem cmpI_lt {a b : Int} (h : a < b) : cmpI a b = -1 := if_pos h
theorem cmpI_gt {a b : Int} (h : b < a) : cmpI a b = 1 := by unfold cmpI; rw [if_neg (by omega), if_pos h]
theorem cmpI_eq {a b : Int} (h : a = b) : cmpI a b = 0 := by unfold cmpI; rw [if_neg (by omega), if_neg (by omega)]
theorem cmpI_neg (a b : Int) : decide (cmpI a b < 0) = decide (a < b) := by
  unfold cmpI
  by_cases h : a < b
  · simp [h]
  · by_cases h2 : b < a <;> simp [h, h2]
theorem cmpI_zero (a b : Int) : (cmpI a b == 0) = decide (a = b) := by
  unfold cmpI
  by_cases h : a < b
  · have : ¬ a = b := by omega
    simp [h, this]
  · by_cases h2 : b < a
    · have : ¬ a = b := by omega
      simp [h, h2, this]
    · have : a = b := by omega
      simp [this]
set_option maxRecDepth 100000 in
set_option maxHeartbeats 1000000 in
theorem isNaN_any (a : Int) (w : World) : Calls Try.prog 33 #[.int .i64 a] w fun e w' => e = .returned (.bool false) ∧ w' = w := by
  have h0 : (a == a) = true := by simp
  have h1 : (a != a) = false := by simp
  go_enter Try.func33, Try.ntmps33
  go_wp2_with fail
  go_ret
  exact ⟨by first | rfl | simp, rfl⟩
set_option maxRecDepth 100000 in
set_option maxHeartbeats 1000000 in
theorem compare_any (a b : Int) (w : World) : Calls Try.prog 27 #[.int .i64 a, .int .i64 b] w fun e w' => e = .returned (.int .i64 (cmpI a b)) ∧ w' = w := by
  by_cases h1 : a < b
  · rw [cmpI_lt h1]
    go_enter Try.func27, Try.ntmps27
    go_wp2_with (go_at_call 33; refine (isNaN_any _ _).mono ?_; rintro e w' ⟨rfl, rfl⟩)
    go_ret
    exact ⟨rfl, rfl⟩
  · by_cases h2 : b < a
    · rw [cmpI_gt h2]
      go_enter Try.func27, Try.ntmps27
      go_wp2_with (go_at_call 33; refine (isNaN_any _ _).mono ?_; rintro e w' ⟨rfl, rfl⟩)
      go_ret
      exact ⟨rfl, rfl⟩
    · rw [cmpI_eq (by omega)]
      go_enter Try.func27, Try.ntmps27
      go_wp2_with (go_at_call 33; refine (isNaN_any _ _).mono ?_; rintro e w' ⟨rfl, rfl⟩)
      go_ret
      exact ⟨rfl, rfl⟩
set_option maxRecDepth 100000 in
set_option maxHeartbeats 1000000 in
theorem byId_any (x0 x1 y0 y1 : Int) (w : World) : Calls Try.prog 22 #[.agg #[.int .i64 x0, .int .i64 x1], .agg #[.int .i64 y0, .int .i64 y1]] w fun e w' => e = .returned (.int .i64 (cmpI x0 y0)) ∧ Below w.heap.size w w' := by
  have d0 := Lib.hid (aBelow2 w (.cells #[.int .i64 x0, .int .i64 x1] 35) (.cells #[.int .i64 y0, .int .i64 y1] 35))
  go_enter Try.func22, Try.ntmps22
  go_wp2_with (go_at_call 27; refine (compare_any _ _ _).mono ?_; rintro e w' ⟨rfl, rfl⟩)
  go_ret
  exact ⟨rfl, d0.out⟩

/-! ### pins in order, searched -/
theorem rise_of : ∀ {l : List Pn} {a : Int} (_ : rightFrom (some a) l = true), (∀ y ∈ l, a < y.id) ∧ l.Pairwise fun x y => x.id < y.id := by
  intro l
  induction l with
  | nil => intro a _; exact ⟨fun y hy => (by cases hy), List.Pairwise.nil⟩
  | cons x r ih =>
    intro a h
    obtain ⟨-, h2, h3⟩ := rightFrom_some.1 h
    obtain ⟨k1, k2⟩ := ih h3
    refine ⟨fun y hy => ?_, List.pairwise_cons.2 ⟨k1, k2⟩⟩
    rcases List.mem_cons.1 hy with rfl | hy
    · exact h2
    · have := k1 y hy; omega
theorem rise {l : List Pn} (h : rightP l = true) : l.Pairwise fun x y => x.id < y.id := by
  cases l with
  | nil => exact List.Pairwise.nil
  | cons x r =>
    obtain ⟨-, h2⟩ := rightFrom_none.1 h
    obtain ⟨k1, k2⟩ := rise_of h2
    exact List.pairwise_cons.2 ⟨k1, k2⟩

theorem s4_on {p1 p2 p3 p4 : Addr} {v1 v2 v3 v4 : Value} {w1 w2 : World} (h : w1.cell? p1 = some v1 ∧ w1.cell? p2 = some v2 ∧ w1.cell? p3 = some v3 ∧ w1.cell? p4 = some v4) (n : Below w1.heap.size w1 w2) :
    w2.cell? p1 = some v1 ∧ w2.cell? p2 = some v2 ∧ w2.cell? p3 = some v3 ∧ w2.cell? p4 = some v4 := by
  obtain ⟨h1, h2, h3, h4⟩ := h
  refine ⟨?_, ?_, ?_, ?_⟩
  · rw [n.cell (World.block_lt_of_cell? _ _ h1)]; exact h1
  · rw [n.cell (World.block_lt_of_cell? _ _ h2)]; exact h2
  · rw [n.cell (World.block_lt_of_cell? _ _ h3)]; exact h3
  · rw [n.cell (World.block_lt_of_cell? _ _ h4)]; exact h4
set_option maxRecDepth 100000 in
set_option maxHeartbeats 4000000 in
theorem search_any (v : Value) (l : List Pn) (id st : Int) (hn : l.length ≤ 1000000) (hp : rightP l = true) (w : World) (h : PRow w v l) :
    Calls Try.prog 21 #[v, .agg #[.int .i64 id, .int .i64 st], .func (.func 22) #[] #[]] w fun e w' => e = .returned (.tuple #[.int .i64 (idxP id l), .bool (twice l id)]) ∧ Below w.heap.size w w' := by
  have HLT := Lib.hid (List.pairwise_iff_getElem.1 (rise hp))
  obtain ⟨A, HA0⟩ : ∃ A, Hid (idxP id l = A) := ⟨_, rfl⟩
  obtain ⟨TH, HT0⟩ : ∃ TH, Hid (twice l id = TH) := ⟨_, rfl⟩
  rw [HA0.out, HT0.out]
  obtain ⟨a, c, rfl, hc, hl⟩ := h
  have HLL := Lib.hid hl
  have dB := Lib.hid (aBelow w (.cells #[.int .i64 id, .int .i64 st] 35))
  have hB : Hid (∀ W : World, Below (w.alloc (.cells #[.int .i64 id, .int .i64 st] 35)).heap.size (w.alloc (.cells #[.int .i64 id, .int .i64 st] 35)) W → W.cell? ⟨w.heap.size, 0, none⟩ = some (.int .i64 id) ∧ W.cell? ⟨w.heap.size, 1, none⟩ = some (.int .i64 st)) := Lib.hid (fun W d => ⟨newC d, newC d⟩)
  clear hp hl
  go_enter Try.func21, Try.ntmps21
  go_wp2_with fail
  go_loopw [9, 10] (fun si sj wr => ∃ i j : Nat, i ≤ j ∧ j ≤ l.length ∧ si = .int .i64 i ∧ sj = .int .i64 j ∧ Hid (Below (w.alloc (.cells #[.int .i64 id, .int .i64 st] 35)).heap.size (w.alloc (.cells #[.int .i64 id, .int .i64 st] 35)) wr) ∧ Hid (∀ p (hp : p < l.length), p < i → (l[p]).id < id) ∧ Hid (∀ p (hp : p < l.length), j ≤ p → id ≤ (l[p]).id)) (fun si sj _ => (intOf sj).toNat - (intOf si).toNat)
  case atStart => exact ⟨0, l.length, Nat.zero_le _, Nat.le_refl _, rfl, rfl, Below.refl _ _, fun p _ hp => absurd hp (Nat.not_lt_zero p), fun p hp h => absurd h (by omega)⟩
  case round =>
    obtain ⟨i, j, hij, hjn, rfl, rfl, HD0, HL, HH⟩ := hrel
    have HD : Hid (Below w.heap.size w wr) := Lib.hid (belowA HD0.out)
    obtain ⟨b0, b1⟩ := hB.out wr HD0.out
    by_cases hlt : i < j
    · obtain ⟨m, hm⟩ : ∃ m : Nat, m = (i + j) / 2 := ⟨_, rfl⟩
      have hml : m < l.length := by omega
      have i1 : (i : Int) < (j : Int) := by omega
      have i2 : ((i : Int) + (j : Int)) / 2 = (m : Int) := by omega
      have i3 : (m : Int) < (l.length : Int) := by omega
      have i4 : (0 : Int) ≤ (m : Int) := by omega
      have hmi : i ≤ m := by omega
      have hmj : m < j := by omega
      clear hm
      obtain ⟨b, o, rfl, hb, hL⟩ := HLL.out (ne_of_lt hml)
      obtain ⟨e0, e1⟩ := p_at (hL.on hb HD.out) m hml
      have HE := Lib.hid (cmpI_neg (l[m]).id id)
      have HLO : Hid ((l[m]).id < id → ∀ p (hp : p < l.length), p < m + 1 → (l[p]).id < id) := Lib.hid fun hT p hp hpm => by
        by_cases q : p < m
        · have := HLT.out p m hp hml q; omega
        · have : p = m := by omega
          subst this; exact hT
      have HHI : Hid (id ≤ (l[m]).id → ∀ p (hp : p < l.length), m ≤ p → id ≤ (l[p]).id) := Lib.hid fun hT p hp hpm => by
        by_cases q : m < p
        · have := HLT.out m p hml hp q; omega
        · have : p = m := by omega
          subst this; exact hT
      have HCM := Lib.hid (fun W => byId_any (l[m]).id (l[m]).st id st W)
      generalize l[m] = x at *
      obtain ⟨x0, x1⟩ := x
      simp only at e0 e1 HE HLO HHI HCM
      generalize cmpI x0 id = C at *
      clear hL
      by_cases T : x0 < id
      · have HM := Lib.hid (HLO.out T)
        have q1 : decide (C < 0) = true := HE.out.trans (decide_eq_true T)
        clear HHI HLO HE
        have hS : wr.drew.cell? ⟨b, o + m * 2, none⟩ = some (.int .i64 x0) ∧ wr.drew.cell? ⟨b, o + m * 2 + 1, none⟩ = some (.int .i64 x1) ∧ wr.drew.cell? ⟨w.heap.size, 0, none⟩ = some (.int .i64 id) ∧ wr.drew.cell? ⟨w.heap.size, 1, none⟩ = some (.int .i64 st) := ⟨e0, e1, b0, b1⟩
        go_wp2_with fail
        clear e0 e1 b0 b1
        go_region_held3 (fun w' => w'.cell? ⟨b, o + m * 2, none⟩ = some (.int .i64 x0) ∧ w'.cell? ⟨b, o + m * 2 + 1, none⟩ = some (.int .i64 x1) ∧ w'.cell? ⟨w.heap.size, 0, none⟩ = some (.int .i64 id) ∧ w'.cell? ⟨w.heap.size, 1, none⟩ = some (.int .i64 st)) (first | exact hS | exact hS2) (first
          | (go_at_call 22; refine (HCM.out _).mono ?_; rintro e w1 ⟨rfl, n7⟩; have hS2 := s4_on hS n7)
          | fail)
        have n1 : Below wr.heap.size wr w1 := ⟨n7.os, n7.tape, n7.output, n7.size, n7.block⟩
        rename_i hHeld
        clear hS hS2 hHeld n7
        go_wp2_with fail
        exact ⟨⟨m + 1, j, by omega, hjn, by go_num, rfl, HD0.out.trans (n1.mono HD0.out.size), HM, HH⟩, by simp [intOf]; omega⟩
      · have HM := Lib.hid (HHI.out (Int.not_lt.1 T))
        have q1 : decide (C < 0) = false := HE.out.trans (decide_eq_false T)
        clear HHI HLO HE
        have hS : wr.drew.cell? ⟨b, o + m * 2, none⟩ = some (.int .i64 x0) ∧ wr.drew.cell? ⟨b, o + m * 2 + 1, none⟩ = some (.int .i64 x1) ∧ wr.drew.cell? ⟨w.heap.size, 0, none⟩ = some (.int .i64 id) ∧ wr.drew.cell? ⟨w.heap.size, 1, none⟩ = some (.int .i64 st) := ⟨e0, e1, b0, b1⟩
        go_wp2_with fail
        clear e0 e1 b0 b1
        go_region_held3 (fun w' => w'.cell? ⟨b, o + m * 2, none⟩ = some (.int .i64 x0) ∧ w'.cell? ⟨b, o + m * 2 + 1, none⟩ = some (.int .i64 x1) ∧ w'.cell? ⟨w.heap.size, 0, none⟩ = some (.int .i64 id) ∧ w'.cell? ⟨w.heap.size, 1, none⟩ = some (.int .i64 st)) (first | exact hS | exact hS2) (first
          | (go_at_call 22; refine (HCM.out _).mono ?_; rintro e w1 ⟨rfl, n7⟩; have hS2 := s4_on hS n7)
          | fail)
        have n1 : Below wr.heap.size wr w1 := ⟨n7.os, n7.tape, n7.output, n7.size, n7.block⟩
        rename_i hHeld
        clear hS hS2 hHeld n7
        go_wp2_with fail
        exact ⟨⟨i, m, hmi, by omega, rfl, rfl, HD0.out.trans (n1.mono HD0.out.size), HL, HM⟩, by simp [intOf]; omega⟩
    · have hij2 : j = i := by omega
      subst hij2
      have i1 : ¬ (j : Int) < (j : Int) := by omega
      have HA : Hid (idxP id l = j) := Lib.hid (idxP_of hjn (fun p hp hpj => HL.out p hp hpj) (fun hp => Int.not_lt.2 (HH.out j hp (Nat.le_refl _))))
      have HAJ : Hid (A = j) := Lib.hid (HA0.out.symm.trans HA.out)
      by_cases hlt2 : j < l.length
      · have i3 : (j : Int) < (l.length : Int) := by omega
        have i4 : decide ((j : Int) < (l.length : Int)) = true := decide_eq_true i3
        have i5 : (0 : Int) ≤ (j : Int) := by omega
        obtain ⟨b, o, rfl, hb, hL⟩ := HLL.out (ne_of_lt hlt2)
        obtain ⟨e0, e1⟩ := p_at (hL.on hb HD.out) j hlt2
        have HV : Hid (TH = (cmpI (l[j]).id id == 0)) := Lib.hid (HT0.out.symm.trans (by
          rw [twice_at HA.out hlt2, cmpI_zero]))
        have HCM := Lib.hid (fun W => byId_any (l[j]).id (l[j]).st id st W)
        generalize l[j] = x at *
        obtain ⟨x0, x1⟩ := x
        simp only at e0 e1 HV HCM
        generalize cmpI x0 id = C at *
        clear hL
        cases q1 : (C == 0)
        · have HV2 : Hid (TH = false) := Lib.hid (HV.out.trans q1)
          clear HV
          have hS : wr.drew.cell? ⟨b, o + j * 2, none⟩ = some (.int .i64 x0) ∧ wr.drew.cell? ⟨b, o + j * 2 + 1, none⟩ = some (.int .i64 x1) ∧ wr.drew.cell? ⟨w.heap.size, 0, none⟩ = some (.int .i64 id) ∧ wr.drew.cell? ⟨w.heap.size, 1, none⟩ = some (.int .i64 st) := ⟨e0, e1, b0, b1⟩
          go_wp2_with fail
          clear e0 e1 b0 b1
          go_region_held3 (fun w' => w'.cell? ⟨b, o + j * 2, none⟩ = some (.int .i64 x0) ∧ w'.cell? ⟨b, o + j * 2 + 1, none⟩ = some (.int .i64 x1) ∧ w'.cell? ⟨w.heap.size, 0, none⟩ = some (.int .i64 id) ∧ w'.cell? ⟨w.heap.size, 1, none⟩ = some (.int .i64 st)) (first | exact hS | exact hS2) (first
            | (go_at_call 22; refine (HCM.out _).mono ?_; rintro e w1 ⟨rfl, n7⟩; have hS2 := s4_on hS n7)
            | fail)
          have n1 : Below wr.heap.size wr w1 := ⟨n7.os, n7.tape, n7.output, n7.size, n7.block⟩
          rename_i hHeld
          clear hS hS2 hHeld n7
          go_wp2_with fail
          exact bodyPost_ret (v := .tuple #[.int .i64 j, .bool false]) (by simp [results, Try.results21, go_sem]) rfl ⟨by rw [HAJ.out, HV2.out], HD.out.trans (n1.mono HD.out.size)⟩
        · have HV2 : Hid (TH = true) := Lib.hid (HV.out.trans q1)
          clear HV
          have hS : wr.drew.cell? ⟨b, o + j * 2, none⟩ = some (.int .i64 x0) ∧ wr.drew.cell? ⟨b, o + j * 2 + 1, none⟩ = some (.int .i64 x1) ∧ wr.drew.cell? ⟨w.heap.size, 0, none⟩ = some (.int .i64 id) ∧ wr.drew.cell? ⟨w.heap.size, 1, none⟩ = some (.int .i64 st) := ⟨e0, e1, b0, b1⟩
          go_wp2_with fail
          clear e0 e1 b0 b1
          go_region_held3 (fun w' => w'.cell? ⟨b, o + j * 2, none⟩ = some (.int .i64 x0) ∧ w'.cell? ⟨b, o + j * 2 + 1, none⟩ = some (.int .i64 x1) ∧ w'.cell? ⟨w.heap.size, 0, none⟩ = some (.int .i64 id) ∧ w'.cell? ⟨w.heap.size, 1, none⟩ = some (.int .i64 st)) (first | exact hS | exact hS2) (first
            | (go_at_call 22; refine (HCM.out _).mono ?_; rintro e w1 ⟨rfl, n7⟩; have hS2 := s4_on hS n7)
            | fail)
          have n1 : Below wr.heap.size wr w1 := ⟨n7.os, n7.tape, n7.output, n7.size, n7.block⟩
          rename_i hHeld
          clear hS hS2 hHeld n7
          go_wp2_with fail
          exact bodyPost_ret (v := .tuple #[.int .i64 j, .bool true]) (by simp [results, Try.results21, go_sem]) rfl ⟨by rw [HAJ.out, HV2.out], HD.out.trans (n1.mono HD.out.size)⟩
      · have i3 : ¬ (j : Int) < (l.length : Int) := by omega
        have i4 : decide ((j : Int) < (l.length : Int)) = false := decide_eq_false i3
        have HV : Hid (TH = false) := Lib.hid (HT0.out.symm.trans (twice_end HA.out hlt2))
        go_wp2_with fail
        go_quiet (fail)
        go_wp2_with fail
        exact bodyPost_ret (v := .tuple #[.int .i64 j, .bool false]) (by simp [results, Try.results21, go_sem]) rfl ⟨by rw [HAJ.out, HV.out], by first | exact below_drewN HD.out _ | exact HD.out⟩

/-! ### some more -/
set_option maxRecDepth 100000 in
set_option maxHeartbeats 4000000 in
theorem add_own (v1 v2 : Value) (l p : List Pn) (w : World) (h1 : PRow w v1 l) (h2 : PRow w v2 p) (hn1 : l.length ≤ 1000) (hn2 : p.length ≤ 1000) :
    Calls Try.prog 8 #[v1, v2] w fun e w' => (∃ v', e = .returned (.tuple #[v', .int .i64 (addP l p).2]) ∧ PRow w' v' (addP l p).1) ∧ Below w.heap.size w w' := by
  have HR := Lib.hid (right_own v1 l w h1 (by omega))
  have HCL := Lib.hid (fun W (d : Below w.heap.size w W) => clone_any v1 l W (h1.on d) (by omega))
  obtain ⟨a1, c1, rfl, -, -⟩ := h1
  obtain ⟨a2, c2, rfl, hc2, hl2⟩ := h2
  have HL2 := Lib.hid hl2
  clear hl2
  cases hr : rightP l
  · have hA : addP l p = ([], 9) := by unfold addP; rw [hr]; rfl
    rw [hA]
    rw [hr] at HR
    clear HL2 hA
    go_enter Try.func8, Try.ntmps8
    go_wp2_with fail
    refine HR.out.mono ?_
    rintro e w1 ⟨rfl, n1⟩
    go_wp2_with fail
    exact bodyPost_ret (v := .tuple #[.slice none 0 0, .int .i64 9]) (by simp [results, Try.results8, go_sem]) rfl ⟨⟨_, rfl, GRow.nil _⟩, n1⟩
  · have hA : addP l p = addAll l p := by unfold addP; rw [hr]; rfl
    rw [hA]
    rw [hr] at HR
    obtain ⟨F, HF⟩ : ∃ F, Hid (addAll l p = F) := ⟨_, Lib.hid rfl⟩
    rw [HF.out]
    clear hA
    go_enter Try.func8, Try.ntmps8
    go_wp2_with fail
    refine HR.out.mono ?_
    rintro e w1 ⟨rfl, n1⟩
    have D1 := Lib.hid n1
    have HC1 := Lib.hid (HCL.out w1 D1.out)
    clear n1 HR HCL
    go_wp2_with fail
    refine HC1.out.mono ?_
    rintro e w2 ⟨⟨v3, rfl, own3⟩, n2⟩
    obtain ⟨a3, c3, rfl, hc3⟩ := own_slice own3
    have HO0 := Lib.hid own3
    have D2 := Lib.hid n2
    have HR0 := Lib.hid hr
    have hBw := D1.out.size
    clear own3 n2 HC1 hr
    go_wp2_with fail
    go_loopw [6, 18] (fun so si wr => ∃ (k : Nat) (S : List Pn) (a : Option Addr) (c : Nat), k ≤ p.length ∧ si = .int .i64 k ∧ so = .slice a S.length c ∧ S.length ≤ l.length + k ∧ S.length ≤ c ∧ Hid (wr.ownsRow w1.heap.size 35 2 (.slice a S.length c) S.length (flatG pC S)) ∧ Hid (F = addAll S (p.drop k)) ∧ Hid (rightP S = true) ∧ Hid (Below w1.heap.size w1 wr)) (fun _ si _ => p.length - (intOf si).toNat)
    case atStart => exact ⟨0, l, a3, c3, Nat.zero_le _, rfl, rfl, by omega, hc3, HO0, Lib.hid HF.out.symm, HR0, D2⟩
    case round =>
      obtain ⟨k, S, a, c, hk, rfl, rfl, hSl, hSc, HO, HFS, HRS, HB⟩ := hrel
      clear HO0 D2 HF HR0
      have HD := Lib.hid (D1.out.trans (HB.out.mono hBw))
      have hBr := HB.out.size
      have hwr := HD.out.size
      by_cases hlt : k < p.length
      · obtain ⟨b, o, rfl, hb, hL⟩ := (HL2.out.on HD.out) (ne_of_lt hlt)
        obtain ⟨e0, e1⟩ := p_at hL k hlt
        have HC := HFS.out
        rw [List.drop_eq_getElem_cons hlt] at HC
        have i1 : (k : Int) < (p.length : Int) := by omega
        have i2 : (0 : Int) ≤ (k : Int) := by omega
        generalize p[k] = x at *
        obtain ⟨xi, xs⟩ := x
        simp only at e0 e1
        have DX := Lib.hid (HD.out.alloc hwr (.cells #[.int .i64 xi, .int .i64 xs] 35))
        clear hL HFS
        by_cases hx : xs < 0
        · have hF := HC.trans (addAll_arg (x := ⟨xi, xs⟩) hx)
          subst hF
          have g1 : decide (xs < 0) = true := decide_eq_true hx
          clear HC
          go_wp2_with fail
          exact bodyPost_ret (v := .tuple #[.slice none 0 0, .int .i64 1]) (by simp [results, Try.results8, go_sem]) rfl ⟨⟨_, rfl, GRow.nil _⟩, DX.out⟩
        · have g1 : decide (xs < 0) = false := decide_eq_false hx
          have hX0 := aBelow wr (.cells #[.int .i64 xi, .int .i64 xs] 35)
          have HSR := Lib.hid (search_any (.slice a S.length c) S xi xs (by omega) HRS.out (wr.alloc (.cells #[.int .i64 xi, .int .i64 xs] 35)) ((ownG_row pC_len HO.out).on hX0))
          have HOX := Lib.hid (own_on HO.out hX0)
          have HBX := Lib.hid (HB.out.alloc hBr (.cells #[.int .i64 xi, .int .i64 xs] 35))
          have hzx : (wr.alloc (.cells #[.int .i64 xi, .int .i64 xs] 35)).heap.size = wr.heap.size + 1 := by simp
          clear hX0
          cases ht : twice S xi
          · have HNX := Lib.hid (HC.trans (addAll_put (x := ⟨xi, xs⟩) hx ht))
            have HRN := Lib.hid (put_right (x := ⟨xi, xs⟩) (Int.not_lt.1 hx) ht (fun b hb => by cases hb) HRS.out)
            have HPU := Lib.hid (put_of (S := S) (x := ⟨xi, xs⟩) (j := idxP xi S) rfl)
            have hil := idxP_le xi S
            rw [ht] at HSR
            generalize idxP xi S = j at *
            clear HC ht HO HB HRS
            go_wp2_with (first | (go_at_call 21; refine HSR.out.mono ?_; rintro e w3 ⟨rfl, n3⟩; obtain ⟨x0, x1⟩ := (show w3.cell? ⟨wr.heap.size, 0, none⟩ = some (.int .i64 xi) ∧ w3.cell? ⟨wr.heap.size, 1, none⟩ = some (.int .i64 xs) from ⟨newC n3, newC n3⟩)))
            have h3 := n3.size
            rw [hzx] at h3
            have D3 := Lib.hid (DX.out.trans (n3.mono DX.out.size))
            have B3 := Lib.hid (HBX.out.trans (n3.mono HBX.out.size))
            have O3 := Lib.hid (own_on HOX.out n3)
            have dn := aBelow w3 (.cells #[.int .i64 xi, .int .i64 xs] 35)
            have hb3 := B3.out.size
            have hne : (Value.slice a S.length c).ownBlock ≠ some w3.heap.size := by
              intro e
              have := (O3.out.lt _ e).2
              omega
            have HINS := Lib.hid (insert_any w1.heap.size (.slice a S.length c) S j ⟨xi, xs⟩ w3.heap.size (w3.alloc (.cells #[.int .i64 xi, .int .i64 xs] 35)) hil (by omega) (own_on O3.out dn) (by simp; omega) (heap_alloc_new _ _) hne)
            rw [← HPU.out] at HINS
            have B4 := Lib.hid (B3.out.alloc hb3 (.cells #[.int .i64 xi, .int .i64 xs] 35))
            have hpl := putP_len S ⟨xi, xs⟩
            clear n3 dn hne HOX HBX HSR DX
            go_wp2_with fail
            refine HINS.out.mono ?_
            rintro e w5 ⟨v5, rfl, own5, n5⟩
            obtain ⟨a5, c5, rfl, hc5⟩ := own_slice own5
            have O5 := Lib.hid own5
            have B5 := Lib.hid (B4.out.trans n5)
            clear own5 n5 HINS B4 O3 D3 B3 HPU
            go_wp2_with fail
            exact ⟨⟨k + 1, putP S ⟨xi, xs⟩, a5, c5, by omega, by go_num, (by first | rfl | rw [hpl]), by omega, hc5, O5, HNX, HRN, B5⟩, by simp [intOf]; omega⟩
          · have hF := HC.trans (addAll_twice (x := ⟨xi, xs⟩) hx ht)
            subst hF
            rw [ht] at HSR
            clear HC
            go_wp2_with (first | (go_at_call 21; refine HSR.out.mono ?_; rintro e w3 ⟨rfl, n3⟩))
            exact bodyPost_ret (v := .tuple #[.slice none 0 0, .int .i64 5]) (by simp [results, Try.results8, go_sem]) rfl ⟨⟨_, rfl, GRow.nil _⟩, DX.out.trans (n3.mono DX.out.size)⟩
      · have hF : F = (S, 0) := by rw [HFS.out, List.drop_of_length_le (by omega), addAll_nil]
        subst hF
        have i1 : ¬ (k : Int) < (p.length : Int) := by omega
        go_wp2_with fail
        exact bodyPost_ret (v := .tuple #[.slice a S.length c, .int .i64 0]) (by simp [results, Try.results8, go_sem]) rfl ⟨⟨_, rfl, ownG_row pC_len HO.out⟩, HD.out⟩

/-! ### what the walks are held to -/
theorem own15 : Own15 where
  add v1 v2 l p w h1 h2 n1 n2 _ _ := add_own v1 v2 l p w h1 h2 (by omega) (by omega)
  drop v l id w h n _ _ := drop_own v l id w h n
  find v l id w h n _ _ := find_own v l id w h (by omega)
  right v l w h n _ := right_own v l w h (by omega)
  same v1 v2 l m w h1 h2 n1 _ _ _ := same_own v1 v2 l m w h1 h2 (by omega)
  floor s v l w h n _ _ := floor_own s v l w h (by omega)
end Go.Proofs.Ytigkpfdbbifcgaa.Pj
