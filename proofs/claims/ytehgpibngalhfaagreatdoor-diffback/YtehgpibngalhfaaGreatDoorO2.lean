/- The program's own changes from rows to others, gone through side by side: a walk. -/
import Derived.Test.YtehgpibngalhfaaGreatDoorO1
import Derived.Test.YtehgpibngalhfaaGreatDoorN4
import Derived.Test.YtehgpibngalhfaaGreatDoorD5
import Derived.Test.YtehgpibngalhfaaGreatDoorO0
namespace Go.Proofs.YtehgpibngalhfaaGreatDoor.Rw
open Go Go.RowKit Go.Sort Go.Lib Tg Pk Ky Qy Df

def lenV : Value → Nat
  | .slice _ n _ => n
  | _ => 0
theorem cutR_head (a : Option Addr) (c n k : Nat) (hk : k ≤ n) (hn : n ≤ c) (w : World) : Sem.run Tryz.prog (Instr.sliceAt 22 (.slice a n c) none (some (.int .i64 (k : Int))) none) w = .ok (.slice a k c) w := by
  have h0 : (0 : Int) ≤ (k : Int) := by omega
  have h1 : (k : Int) ≤ (c : Int) := by omega
  have hu := Tryz.underlying22
  go_simp
theorem cutR_tail (a : Option Addr) (c n k : Nat) (hk : k ≤ n) (w : World) : Sem.run Tryz.prog (Instr.sliceAt 22 (.slice a n c) (some (.int .i64 (k : Int))) none none) w = .ok (.slice (if c = k then a else a.map (·.add (k * 4))) (n - k) (c - k)) w := by
  have h0 : (0 : Int) ≤ (k : Int) := by omega
  have h1 : (k : Int) ≤ (n : Int) := by omega
  have hu := Tryz.underlying22
  go_simp
theorem cutR_one (a : Option Addr) (c : Nat) {l : List Row} (h : 0 < l.length) (w : World) : Sem.run Tryz.prog (Instr.sliceAt 22 (.slice a l.length c) (some (.int .i64 1)) none none) w = .ok (.slice (if c = 1 then a else a.map (·.add 4)) (l.drop 1).length (c - 1)) w := by
  rw [List.length_drop]
  exact cutR_tail a c l.length 1 h w
theorem row_drop {w : World} {a : Option Addr} {c : Nat} {l : List Row} (h : RRow w (.slice a l.length c) l) : RRow w (.slice (if c = 1 then a else a.map (·.add 4)) (l.drop 1).length (c - 1)) (l.drop 1) := by
  have := grow_tail h 1
  rw [← List.length_drop] at this
  exact this
theorem ofS_gone {S M : List Chg} {A B s : List Row} {x : Row} (h : S ++ mergeD A B = M) (e : A = x :: s) (h1 : firstL A B = true) : S ++ [goneC x] ++ mergeD s B = M := by
  subst e; rw [← h, merge_left h1, List.append_assoc]; rfl
theorem ofS_come {S M : List Chg} {A B t : List Row} {y : Row} (h : S ++ mergeD A B = M) (e : B = y :: t) (h1 : firstL B A = true) : S ++ [comeC y] ++ mergeD A t = M := by
  subst e; rw [← h, merge_right h1, List.append_assoc]; rfl
theorem ofS_same {S M : List Chg} {A B s t : List Row} {x y : Row} (h : S ++ mergeD A B = M) (e : A = x :: s) (e2 : B = y :: t) (h1 : pe x y = true) (h2 : eqV x y = true) : S ++ mergeD s t = M := by
  subst e; subst e2; rw [← h, mergeD_same s t h1 h2]
theorem ofS_else {S M : List Chg} {A B s t : List Row} {x y : Row} (h : S ++ mergeD A B = M) (e : A = x :: s) (e2 : B = y :: t) (h1 : pe x y = true) (h2 : eqV x y = false) : S ++ [comeC y] ++ mergeD s t = M := by
  subst e; subst e2; rw [← h, mergeD_else s t h1 h2, List.append_assoc]; rfl
/-- What is known of a list that begins with x. -/
theorem row_at {w : World} {a : Option Addr} {c : Nat} {A s : List Row} {x : Row} (h : RRow w (.slice a A.length c) A) (e : A = x :: s) : ∃ b o, a = some ⟨b, o, none⟩ ∧ b < w.heap.size ∧ w.cell? ⟨b, o, none⟩ = some (.int .i64 x.win) ∧ w.cell? ⟨b, o + 1, none⟩ = some (.string x.grp) ∧ w.cell? ⟨b, o + 2, none⟩ = some (.int .i64 x.n) ∧ w.cell? ⟨b, o + 3, none⟩ = some (.bool x.ov) := by
  subst e
  obtain ⟨b, o, c', hv, hc, hb, hL, e1, e2, e3, e4⟩ := row_first h
  injection hv with q1 q2 q3
  exact ⟨b, o, q1, hb, e1, e2, e3, e4⟩

set_option maxRecDepth 100000 in
set_option maxHeartbeats 4000000 in
theorem of_left (v1 v2 : Value) (a : List Row) (w : World) (hE : Env w) (h1 : RRow w v1 a) (hn1 : a.length ≤ 1000) (hs1 : ∀ x ∈ a, x.grp.size ≤ 900) (hr : rright a = false) :
    Calls Tryz.prog 10 #[v1, v2] w fun e w' => e = .returned (.tuple #[.slice none 0 0, .int .i64 9]) ∧ Below w.heap.size w w' := by
  have HK := Lib.hid (rright_any v1 a w h1 hE (by omega) hs1)
  rw [hr] at HK
  clear h1 hs1 hE
  go_enter Tryz.func10, Tryz.ntmps10
  go_wp2_with fail
  refine (HK.out).mono ?_
  rintro e w2 ⟨rfl, n2⟩
  go_wp2_with fail
  go_ret2
  exact ⟨rfl, n2⟩
set_option maxRecDepth 100000 in
set_option maxHeartbeats 4000000 in
theorem of_right (v1 v2 : Value) (a b : List Row) (w : World) (hE : Env w) (h1 : RRow w v1 a) (h2 : RRow w v2 b) (hn1 : a.length ≤ 1000) (hn2 : b.length ≤ 1000) (hs1 : ∀ x ∈ a, x.grp.size ≤ 900) (hs2 : ∀ x ∈ b, x.grp.size ≤ 900) (hr : rright a = true) (hr2 : rright b = false) :
    Calls Tryz.prog 10 #[v1, v2] w fun e w' => e = .returned (.tuple #[.slice none 0 0, .int .i64 9]) ∧ Below w.heap.size w w' := by
  have HK := Lib.hid (rright_any v1 a w h1 hE (by omega) hs1)
  have HK2 := Lib.hid (fun W (n : Below w.heap.size w W) => rright_any v2 b W (h2.on n) (hE.go n) (by omega) hs2)
  rw [hr] at HK
  rw [hr2] at HK2
  clear h1 hs1 h2 hs2 hE
  go_enter Tryz.func10, Tryz.ntmps10
  go_wp2_with fail
  refine (HK.out).mono ?_
  rintro e w2 ⟨rfl, n2⟩
  go_wp2_with fail
  refine (HK2.out _ n2).mono ?_
  rintro e w3 ⟨rfl, n3⟩
  go_wp2_with fail
  go_ret2
  exact ⟨rfl, n2.trans (n3.mono n2.size)⟩

set_option maxRecDepth 100000 in
set_option maxHeartbeats 8000000 in
theorem of_ok (v1 v2 : Value) (a b : List Row) (w : World) (hE : Env w) (h1 : RRow w v1 a) (h2 : RRow w v2 b) (hn1 : a.length ≤ 400) (hn2 : b.length ≤ 400) (hs1 : ∀ x ∈ a, x.grp.size ≤ 900) (hs2 : ∀ x ∈ b, x.grp.size ≤ 900) (hr : rright a = true) (hr2 : rright b = true) :
    Calls Tryz.prog 10 #[v1, v2] w fun e w' => (∃ v', e = .returned (.tuple #[v', .int .i64 0]) ∧ CRow w' v' (mergeD a b)) ∧ Below w.heap.size w w' := by
  have HK := Lib.hid (rright_any v1 a w h1 hE (by omega) hs1)
  have HK2 := Lib.hid (fun W (n : Below w.heap.size w W) => rright_any v2 b W (h2.on n) (hE.go n) (by omega) hs2)
  rw [hr] at HK
  rw [hr2] at HK2
  obtain ⟨i0, hi, hz0, hz1, hz2⟩ := info48
  have HI := Lib.hid (And.intro hi (And.intro hz0 (And.intro hz1 hz2)))
  obtain ⟨M, HM⟩ : ∃ M, Hid (mergeD a b = M) := ⟨_, rfl⟩
  rw [HM.out]
  have H1 := Lib.hid h1
  have H2 := Lib.hid h2
  obtain ⟨a1, c1, rfl, _, _⟩ := h1
  obtain ⟨a2, c2, rfl, _, _⟩ := h2
  clear hs1 hs2 hE hi hz0 hz1 hz2
  go_enter Tryz.func10, Tryz.ntmps10
  go_wp2_with fail
  refine (HK.out).mono ?_
  rintro e w2 ⟨rfl, n2⟩
  go_wp2_with fail
  refine (HK2.out _ n2).mono ?_
  rintro e w3 ⟨rfl, n3⟩
  have d3 := n2.trans (n3.mono n2.size)
  clear n2 n3 HK HK2
  go_wp2_with fail
  go_loopw [0, 1, 6] (fun va vb vl wr => ∃ (A B : List Row) (S : List Chg) (a1 a2 : Option Addr) (c1 c2 : Nat), va = .slice a1 A.length c1 ∧ vb = .slice a2 B.length c2 ∧ S.length + A.length + B.length ≤ 800 ∧ Hid (∀ W, Below w.heap.size w W → RRow W (.slice a1 A.length c1) A) ∧ Hid (∀ W, Below w.heap.size w W → RRow W (.slice a2 B.length c2) B) ∧ Hid (wr.ownsRow w.heap.size 47 5 vl S.length (flatG chC S)) ∧ Hid (S ++ mergeD A B = M) ∧ Hid (Below w.heap.size w wr)) (fun va vb _ _ => lenV va + lenV vb)
  case atStart => exact ⟨a, b, [], a1, a2, c1, c2, rfl, rfl, by simp only [List.length_nil]; omega, fun W d => H1.out.on d, fun W d => H2.out.on d, ownG_nil _ _ _, by show [] ++ mergeD a b = M; exact HM.out, d3⟩
  case round =>
    obtain ⟨A, B, S, a1, a2, c1, c2, rfl, rfl, hle, HA, HB, HO, HS, HD⟩ := hrel
    have hz := (HD.out).size
    have HF := Lib.hid (ahead_any _ _ A B wr (HA.out _ HD.out) (HB.out _ HD.out))
    have HF2 := Lib.hid (fun W (d : Below w.heap.size w W) => ahead_any _ _ B A W (HB.out _ d) (HA.out _ d))
    clear H1 H2 HM
    by_cases hA0 : A.length = 0
    · have eA : A = [] := List.length_eq_zero_iff.1 hA0
      have iA : decide ((0 : Int) < (A.length : Int)) = false := decide_eq_false (by omega)
      have iA2 : decide (0 < A.length) = false := decide_eq_false (by omega)
      by_cases hB0 : B.length = 0
      · have eB : B = [] := List.length_eq_zero_iff.1 hB0
        have iB : decide ((0 : Int) < (B.length : Int)) = false := decide_eq_false (by omega)
        have iB2 : decide (0 < B.length) = false := decide_eq_false (by omega)
        have hr := ownG_row chC_len HO.out
        have e : S = M := by have := HS.out; rw [eA, eB, mergeD_nil] at this; simpa using this
        rw [e] at hr
        have HRR := Lib.hid hr
        clear hA0 hB0 eA eB e hr
        go_wp2_with fail
        go_ret2
        exact ⟨⟨_, rfl, HRR.out⟩, HD.out⟩
      · obtain ⟨y, t, hB⟩ : ∃ y t, B = y :: t := by cases B with | nil => exact absurd rfl hB0 | cons y t => exact ⟨y, t, rfl⟩
        have e1 : firstL A B = false := by rw [eA]; rfl
        have e2 : firstL B A = true := by rw [eA, hB]; rfl
        rw [e1] at HF
        rw [e2] at HF2
        have HM := Lib.hid (ofS_come HS.out hB e2)
        clear hA0 eA hB0 HS
        obtain ⟨bm, om, hqm, -, -, -, -, -⟩ := row_at (HB.out _ HD.out) hB
        subst hqm
        have hcm := cutR_one (some ⟨bm, om, none⟩) c2 (l := B) (by rw [hB]; simp)
        have HRm := Lib.hid (fun W (d : Below w.heap.size w W) => row_drop (HB.out W d))
        have hlm : B.length = t.length + 1 := by rw [hB]; rfl
        have hdm : B.drop 1 = t := by rw [hB]; rfl
        rw [hdm] at hcm HRm
        have im : (0 : Int) < (B.length : Int) := by omega
        generalize (if c2 = 1 then some (⟨bm, om, none⟩ : Addr) else Option.map (fun x : Addr => x.add 4) (some (⟨bm, om, none⟩ : Addr))) = am at *
        generalize c2 - 1 = km at *
        have Lm := Lib.hid hlm
        have Em := Lib.hid hB
        clear hdm hlm hB
        go_wp2_with fail
        refine (HF.out).mono ?_
        rintro e w5 ⟨rfl, g5⟩
        have d5 := (HD.out).trans (g5.below.mono hz)
        have HO := Lib.hid (own_on HO.out g5.below)
        have hz5 := d5.size
        clear HF g5
        go_wp2_with fail
        refine (HF2.out _ d5).mono ?_
        rintro e w6 ⟨rfl, g6⟩
        have d6 := d5.trans (g6.below.mono hz5)
        have HO := Lib.hid (own_on HO.out g6.below)
        have hz6 := d6.size
        clear HF2 g6 d5 hz5
        obtain ⟨bbm, oom, hqm', -, m1, m2, m3, m4⟩ := row_at (HB.out _ d6) Em.out
        injection hqm' with hqm'
        injection hqm' with q1 q2 q3
        subst q1
        subst q2
        clear q3
        obtain ⟨y1, y2, y3, y4⟩ := y
        simp only at m1 m2 m3 m4
        clear HB
        go_wp2_with (first | (at_builtin; refine wpList_append_own _ rfl _ _ 25 rfl w.heap.size 47 i0 (.agg #[.int .i64 0, .string ⟨#[]⟩, .int .i64 0, .bool false, .bool false]) 5 48 Tryz.underlying25 HI.out.1 HI.out.2.1 HI.out.2.2.1 HI.out.2.2.2 rfl (by decide) _ _ _ rfl (HO.out.alloc _) ⟨w6.heap.size, 0, none⟩ 1 1 (chC ⟨⟨y1, y2, y3, y4⟩, false⟩) rfl rfl (new1C w6 ⟨⟨y1, y2, y3, y4⟩, false⟩) (chC_one _) (by unfold maxLen; omega) (by omega) (by simp; omega) ?_; intro v' w7 hown hgrow hnil))
        have HO3 := Lib.hid (ownG_next hown)
        have hb3 := Lib.hid (ownG_below d6 hz6 HO.out hgrow)
        clear hown hgrow HO
        clear m1 m2 m3 m4
        go_wp2_with fail
        exact ⟨⟨A, t, S ++ [⟨⟨y1, y2, y3, y4⟩, false⟩], _, am, _, km, rfl, rfl, by rw [List.length_append]; have := Lm.out; simp; omega, HA, HRm, HO3, HM, hb3⟩, by have := Lm.out; simp [lenV]; omega⟩
    · have iA : decide ((0 : Int) < (A.length : Int)) = true := decide_eq_true (by omega)
      have iA2 : decide (0 < A.length) = true := decide_eq_true (by omega)
      obtain ⟨x, s, hA⟩ : ∃ x s, A = x :: s := by cases A with | nil => exact absurd rfl hA0 | cons x s => exact ⟨x, s, rfl⟩
      clear hA0
      cases e1 : firstL A B
      · obtain ⟨y, t, hB⟩ : ∃ y t, B = y :: t := by cases B with | nil => rw [hA] at e1; cases e1 | cons y t => exact ⟨y, t, rfl⟩
        cases e2 : firstL B A
        · have hpe : pe x y = true := by
            have h1 := e1
            have h2 := e2
            rw [hA, hB] at h1 h2
            exact rlt_neither h1 h2
          rw [e1] at HF
          rw [e2] at HF2
          have HEV := Lib.hid (eqV_parts x y _ _ rfl rfl)
          have HS1 := Lib.hid (fun (h : eqV x y = true) => ofS_same HS.out hA hB hpe h)
          have HS2 := Lib.hid (fun (h : eqV x y = false) => ofS_else HS.out hA hB hpe h)
          clear hpe HS e1 e2
          obtain ⟨bg, og, hqg, -, -, -, -, -⟩ := row_at (HA.out _ HD.out) hA
          subst hqg
          have hcg := cutR_one (some ⟨bg, og, none⟩) c1 (l := A) (by rw [hA]; simp)
          have HRg := Lib.hid (fun W (d : Below w.heap.size w W) => row_drop (HA.out W d))
          have hlg : A.length = s.length + 1 := by rw [hA]; rfl
          have hdg : A.drop 1 = s := by rw [hA]; rfl
          rw [hdg] at hcg HRg
          have ig : (0 : Int) < (A.length : Int) := by omega
          generalize (if c1 = 1 then some (⟨bg, og, none⟩ : Addr) else Option.map (fun x : Addr => x.add 4) (some (⟨bg, og, none⟩ : Addr))) = ag at *
          generalize c1 - 1 = kg at *
          have Lg := Lib.hid hlg
          have Eg := Lib.hid hA
          clear hdg hlg hA
          obtain ⟨bm, om, hqm, -, -, -, -, -⟩ := row_at (HB.out _ HD.out) hB
          subst hqm
          have hcm := cutR_one (some ⟨bm, om, none⟩) c2 (l := B) (by rw [hB]; simp)
          have HRm := Lib.hid (fun W (d : Below w.heap.size w W) => row_drop (HB.out W d))
          have hlm : B.length = t.length + 1 := by rw [hB]; rfl
          have hdm : B.drop 1 = t := by rw [hB]; rfl
          rw [hdm] at hcm HRm
          have im : (0 : Int) < (B.length : Int) := by omega
          generalize (if c2 = 1 then some (⟨bm, om, none⟩ : Addr) else Option.map (fun x : Addr => x.add 4) (some (⟨bm, om, none⟩ : Addr))) = am at *
          generalize c2 - 1 = km at *
          have Lm := Lib.hid hlm
          have Em := Lib.hid hB
          clear hdm hlm hB
          go_wp2_with fail
          refine (HF.out).mono ?_
          rintro e w5 ⟨rfl, g5⟩
          have d5 := (HD.out).trans (g5.below.mono hz)
          have HO := Lib.hid (own_on HO.out g5.below)
          have hz5 := d5.size
          clear HF g5
          go_wp2_with fail
          refine (HF2.out _ d5).mono ?_
          rintro e w6 ⟨rfl, g6⟩
          have d6 := d5.trans (g6.below.mono hz5)
          have HO := Lib.hid (own_on HO.out g6.below)
          have hz6 := d6.size
          clear HF2 g6 d5 hz5
          obtain ⟨bbm, oom, hqm', -, m1, m2, m3, m4⟩ := row_at (HB.out _ d6) Em.out
          injection hqm' with hqm'
          injection hqm' with q1 q2 q3
          subst q1
          subst q2
          clear q3
          obtain ⟨y1, y2, y3, y4⟩ := y
          simp only at m1 m2 m3 m4
          obtain ⟨bbg, oog, hqg', -, g1, g2, g3, g4⟩ := row_at (HA.out _ d6) Eg.out
          injection hqg' with hqg'
          injection hqg' with q1 q2 q3
          subst q1
          subst q2
          clear q3
          obtain ⟨x1, x2, x3, x4⟩ := x
          simp only at g1 g2 g3 g4
          simp only at HEV
          clear HA HB
          cases p3 : (x3 == y3)
          · have HM := Lib.hid (HS2.out ((HEV.out).trans (by rw [p3] <;> rfl)))
            clear HS1 HS2 HEV
            go_wp2_with fail
            go_quiet (fail)
            have d6 := below_drewN d6 nq
            have hz6 := d6.size
            have HO := Lib.hid (own_drewN HO.out nq)
            have m1 : (w6.drewN nq).cell? ⟨bm, om, none⟩ = _ := m1
            have m2 : (w6.drewN nq).cell? ⟨bm, om + 1, none⟩ = _ := m2
            have m3 : (w6.drewN nq).cell? ⟨bm, om + 2, none⟩ = _ := m3
            have m4 : (w6.drewN nq).cell? ⟨bm, om + 3, none⟩ = _ := m4
            generalize w6.drewN nq = w8 at *
            go_wp2_with (first | (at_builtin; refine wpList_append_own _ rfl _ _ 25 rfl w.heap.size 47 i0 (.agg #[.int .i64 0, .string ⟨#[]⟩, .int .i64 0, .bool false, .bool false]) 5 48 Tryz.underlying25 HI.out.1 HI.out.2.1 HI.out.2.2.1 HI.out.2.2.2 rfl (by decide) _ _ _ rfl (HO.out.alloc _) ⟨w8.heap.size, 0, none⟩ 1 1 (chC ⟨⟨y1, y2, y3, y4⟩, false⟩) rfl rfl (new1C w8 ⟨⟨y1, y2, y3, y4⟩, false⟩) (chC_one _) (by unfold maxLen; omega) (by omega) (by simp; omega) ?_; intro v' w7 hown hgrow hnil))
            have HO3 := Lib.hid (ownG_next hown)
            have hb3 := Lib.hid (ownG_below d6 hz6 HO.out hgrow)
            clear hown hgrow HO
            clear m1 m2 m3 m4
            go_wp2_with fail
            go_quiet (fail)
            go_wp2_with fail
            exact ⟨⟨s, t, S ++ [⟨⟨y1, y2, y3, y4⟩, false⟩], ag, am, kg, km, rfl, rfl, by rw [List.length_append]; have := Lm.out; have := Lg.out; simp; omega, HRg, HRm, Lib.hid (own_drewN HO3.out _), HM, Lib.hid (below_drewN hb3.out _)⟩, by have := Lm.out; have := Lg.out; simp [lenV]; omega⟩
          · cases p4 : (x4 == y4)
            · have HM := Lib.hid (HS2.out ((HEV.out).trans (by rw [p3, p4] <;> rfl)))
              clear HS1 HS2 HEV
              go_wp2_with fail
              go_quiet (fail)
              have d6 := below_drewN d6 nq
              have hz6 := d6.size
              have HO := Lib.hid (own_drewN HO.out nq)
              have m1 : (w6.drewN nq).cell? ⟨bm, om, none⟩ = _ := m1
              have m2 : (w6.drewN nq).cell? ⟨bm, om + 1, none⟩ = _ := m2
              have m3 : (w6.drewN nq).cell? ⟨bm, om + 2, none⟩ = _ := m3
              have m4 : (w6.drewN nq).cell? ⟨bm, om + 3, none⟩ = _ := m4
              generalize w6.drewN nq = w8 at *
              go_wp2_with (first | (at_builtin; refine wpList_append_own _ rfl _ _ 25 rfl w.heap.size 47 i0 (.agg #[.int .i64 0, .string ⟨#[]⟩, .int .i64 0, .bool false, .bool false]) 5 48 Tryz.underlying25 HI.out.1 HI.out.2.1 HI.out.2.2.1 HI.out.2.2.2 rfl (by decide) _ _ _ rfl (HO.out.alloc _) ⟨w8.heap.size, 0, none⟩ 1 1 (chC ⟨⟨y1, y2, y3, y4⟩, false⟩) rfl rfl (new1C w8 ⟨⟨y1, y2, y3, y4⟩, false⟩) (chC_one _) (by unfold maxLen; omega) (by omega) (by simp; omega) ?_; intro v' w7 hown hgrow hnil))
              have HO3 := Lib.hid (ownG_next hown)
              have hb3 := Lib.hid (ownG_below d6 hz6 HO.out hgrow)
              clear hown hgrow HO
              clear m1 m2 m3 m4
              go_wp2_with fail
              go_quiet (fail)
              go_wp2_with fail
              exact ⟨⟨s, t, S ++ [⟨⟨y1, y2, y3, y4⟩, false⟩], ag, am, kg, km, rfl, rfl, by rw [List.length_append]; have := Lm.out; have := Lg.out; simp; omega, HRg, HRm, Lib.hid (own_drewN HO3.out _), HM, Lib.hid (below_drewN hb3.out _)⟩, by have := Lm.out; have := Lg.out; simp [lenV]; omega⟩
            · have HM := Lib.hid (HS1.out ((HEV.out).trans (by rw [p3, p4] <;> rfl)))
              clear HS1 HS2 HEV
              go_wp2_with fail
              go_quiet (fail)
              have d6 := below_drewN d6 nq
              have HO := Lib.hid (own_drewN HO.out nq)
              generalize w6.drewN nq = w8 at *
              go_wp2_with fail
              go_quiet (fail)
              go_wp2_with fail
              exact ⟨⟨s, t, S, ag, am, kg, km, rfl, rfl, by have := Lm.out; have := Lg.out; omega, HRg, HRm, Lib.hid (own_drewN HO.out _), HM, Lib.hid (below_drewN d6 _)⟩, by have := Lm.out; have := Lg.out; simp [lenV]; omega⟩
        · rw [e1] at HF
          rw [e2] at HF2
          have HM := Lib.hid (ofS_come HS.out hB e2)
          clear HS e1 e2 hA
          obtain ⟨bm, om, hqm, -, -, -, -, -⟩ := row_at (HB.out _ HD.out) hB
          subst hqm
          have hcm := cutR_one (some ⟨bm, om, none⟩) c2 (l := B) (by rw [hB]; simp)
          have HRm := Lib.hid (fun W (d : Below w.heap.size w W) => row_drop (HB.out W d))
          have hlm : B.length = t.length + 1 := by rw [hB]; rfl
          have hdm : B.drop 1 = t := by rw [hB]; rfl
          rw [hdm] at hcm HRm
          have im : (0 : Int) < (B.length : Int) := by omega
          generalize (if c2 = 1 then some (⟨bm, om, none⟩ : Addr) else Option.map (fun x : Addr => x.add 4) (some (⟨bm, om, none⟩ : Addr))) = am at *
          generalize c2 - 1 = km at *
          have Lm := Lib.hid hlm
          have Em := Lib.hid hB
          clear hdm hlm hB
          go_wp2_with fail
          refine (HF.out).mono ?_
          rintro e w5 ⟨rfl, g5⟩
          have d5 := (HD.out).trans (g5.below.mono hz)
          have HO := Lib.hid (own_on HO.out g5.below)
          have hz5 := d5.size
          clear HF g5
          go_wp2_with fail
          refine (HF2.out _ d5).mono ?_
          rintro e w6 ⟨rfl, g6⟩
          have d6 := d5.trans (g6.below.mono hz5)
          have HO := Lib.hid (own_on HO.out g6.below)
          have hz6 := d6.size
          clear HF2 g6 d5 hz5
          obtain ⟨bbm, oom, hqm', -, m1, m2, m3, m4⟩ := row_at (HB.out _ d6) Em.out
          injection hqm' with hqm'
          injection hqm' with q1 q2 q3
          subst q1
          subst q2
          clear q3
          obtain ⟨y1, y2, y3, y4⟩ := y
          simp only at m1 m2 m3 m4
          clear HB
          go_wp2_with (first | (at_builtin; refine wpList_append_own _ rfl _ _ 25 rfl w.heap.size 47 i0 (.agg #[.int .i64 0, .string ⟨#[]⟩, .int .i64 0, .bool false, .bool false]) 5 48 Tryz.underlying25 HI.out.1 HI.out.2.1 HI.out.2.2.1 HI.out.2.2.2 rfl (by decide) _ _ _ rfl (HO.out.alloc _) ⟨w6.heap.size, 0, none⟩ 1 1 (chC ⟨⟨y1, y2, y3, y4⟩, false⟩) rfl rfl (new1C w6 ⟨⟨y1, y2, y3, y4⟩, false⟩) (chC_one _) (by unfold maxLen; omega) (by omega) (by simp; omega) ?_; intro v' w7 hown hgrow hnil))
          have HO3 := Lib.hid (ownG_next hown)
          have hb3 := Lib.hid (ownG_below d6 hz6 HO.out hgrow)
          clear hown hgrow HO
          clear m1 m2 m3 m4
          go_wp2_with fail
          exact ⟨⟨A, t, S ++ [⟨⟨y1, y2, y3, y4⟩, false⟩], _, am, _, km, rfl, rfl, by rw [List.length_append]; have := Lm.out; simp; omega, HA, HRm, HO3, HM, hb3⟩, by have := Lm.out; simp [lenV]; omega⟩
      · rw [e1] at HF
        have HM := Lib.hid (ofS_gone HS.out hA e1)
        clear HS e1 HF2
        obtain ⟨bg, og, hqg, -, -, -, -, -⟩ := row_at (HA.out _ HD.out) hA
        subst hqg
        have hcg := cutR_one (some ⟨bg, og, none⟩) c1 (l := A) (by rw [hA]; simp)
        have HRg := Lib.hid (fun W (d : Below w.heap.size w W) => row_drop (HA.out W d))
        have hlg : A.length = s.length + 1 := by rw [hA]; rfl
        have hdg : A.drop 1 = s := by rw [hA]; rfl
        rw [hdg] at hcg HRg
        have ig : (0 : Int) < (A.length : Int) := by omega
        generalize (if c1 = 1 then some (⟨bg, og, none⟩ : Addr) else Option.map (fun x : Addr => x.add 4) (some (⟨bg, og, none⟩ : Addr))) = ag at *
        generalize c1 - 1 = kg at *
        have Lg := Lib.hid hlg
        have Eg := Lib.hid hA
        clear hdg hlg hA
        go_wp2_with fail
        refine (HF.out).mono ?_
        rintro e w5 ⟨rfl, g5⟩
        have d5 := (HD.out).trans (g5.below.mono hz)
        have HO := Lib.hid (own_on HO.out g5.below)
        have hz5 := d5.size
        clear HF g5
        obtain ⟨bbg, oog, hqg', -, g1, g2, g3, g4⟩ := row_at (HA.out _ d5) Eg.out
        injection hqg' with hqg'
        injection hqg' with q1 q2 q3
        subst q1
        subst q2
        clear q3
        obtain ⟨x1, x2, x3, x4⟩ := x
        simp only at g1 g2 g3 g4
        clear HA
        have HG := Lib.hid (gone_any x1 x2 x3 x4 w5)
        go_wp2_with fail
        refine (HG.out).mono ?_
        rintro e w6 ⟨rfl, g6⟩
        have d6 := d5.trans (g6.below.mono hz5)
        have HO := Lib.hid (own_on HO.out g6.below)
        have hz6 := d6.size
        clear HG g6 d5 hz5 g1 g2 g3 g4
        go_wp2_with (first | (at_builtin; refine wpList_append_own _ rfl _ _ 25 rfl w.heap.size 47 i0 (.agg #[.int .i64 0, .string ⟨#[]⟩, .int .i64 0, .bool false, .bool false]) 5 48 Tryz.underlying25 HI.out.1 HI.out.2.1 HI.out.2.2.1 HI.out.2.2.2 rfl (by decide) _ _ _ rfl (HO.out.alloc _) ⟨w6.heap.size, 0, none⟩ 1 1 (chC ⟨⟨x1, x2, 0, false⟩, true⟩) rfl rfl (new1C w6 ⟨⟨x1, x2, 0, false⟩, true⟩) (chC_one _) (by unfold maxLen; omega) (by omega) (by simp; omega) ?_; intro v' w7 hown hgrow hnil))
        have HO3 := Lib.hid (ownG_next hown)
        have hb3 := Lib.hid (ownG_below d6 hz6 HO.out hgrow)
        clear hown hgrow HO
        go_wp2_with fail
        exact ⟨⟨s, B, S ++ [⟨⟨x1, x2, 0, false⟩, true⟩], ag, _, kg, _, rfl, rfl, by rw [List.length_append]; have := Lg.out; simp; omega, HRg, HB, HO3, HM, hb3⟩, by have := Lg.out; simp [lenV]; omega⟩
end Go.Proofs.YtehgpibngalhfaaGreatDoor.Rw
