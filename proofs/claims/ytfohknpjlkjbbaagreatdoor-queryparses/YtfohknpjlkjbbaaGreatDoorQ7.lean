/- Walks: the text of a query, both. -/
import Derived.Test.YtfohknpjlkjbbaaGreatDoorQ6
import Derived.Test.YtfohknpjlkjbbaaGreatDoorH1
namespace Go.Proofs.YtfohknpjlkjbbaaGreatDoor
open Go Go.RowKit Tg Pk Ky Qy

def joinC (l : List ByteArray) : ByteArray := joinB ⟨#[44]⟩ l
theorem joinC_list (l : List ByteArray) : (joinC l).data.toList = joinQ l := by
  unfold joinC joinB joinQ
  rw [ba_list]
/-- The text, as it is put together. -/
def qt1 (a : Int) (n : ByteArray) : ByteArray := aggB a ++ ⟨#[32]⟩ ++ n
def qt2 (t : ByteArray) (m : List Match) : ByteArray := if m = [] then t else t ++ (⟨#[123]⟩ ++ ptextB m ++ ⟨#[125]⟩)
def qt3 (t : ByteArray) (b : List ByteArray) : ByteArray := if b = [] then t else t ++ (⟨#[32, 98, 121, 32]⟩ ++ joinC b)
def qtextB (q : Query) : ByteArray := if qright q then qt3 (qt2 (qt1 q.1 q.2.1) q.2.2.1) q.2.2.2 else ⟨#[]⟩
theorem qtextB_list (q : Query) : (qtextB q).data.toList = qtext q := by
  unfold qtextB qtext
  cases qright q
  · rfl
  · rw [if_pos rfl, if_pos rfl]
    have h1 : (qt1 q.1 q.2.1).data.toList = aggW q.1 ++ 32 :: q.2.1.data.toList := by
      unfold qt1 aggB
      rw [app_list, app_list, bb_list]
      simp
    have h2 : (qt2 (qt1 q.1 q.2.1) q.2.2.1).data.toList = aggW q.1 ++ 32 :: (q.2.1.data.toList ++ braced q.2.2.1) := by
      unfold qt2 braced
      by_cases h : q.2.2.1 = []
      · rw [if_pos h, if_pos h, h1]; simp
      · rw [if_neg h, if_neg h, app_list, app_list, app_list, h1, ptextB_list]; simp
    unfold qt3 qtextL behind
    by_cases h : q.2.2.2 = []
    · rw [if_pos h, if_pos h, h2]; simp
    · rw [if_neg h, if_neg h, app_list, app_list, h2, joinC_list]; simp
theorem joinC_size {l : List ByteArray} (h : l.length ≤ 4) (h2 : ∀ x ∈ l, x.size ≤ 12) : (joinC l).size ≤ 60 := by
  unfold joinC
  rw [joinB_size]
  have H : ∀ l : List ByteArray, (∀ x ∈ l, x.size ≤ 12) → (Lib.join (l.map (·.data.toList)) [44]).length ≤ l.length * 13 := by
    intro l
    induction l with
    | nil => intro _; simp [Lib.join_nil]
    | cons x r ih =>
      intro h
      have hx := h x (by simp)
      rw [size_list] at hx
      have hr := ih (fun y hy => h y (by simp [hy]))
      cases r with
      | nil => simp only [List.map_cons, List.map_nil, Lib.join_one, List.length_cons, List.length_nil]; omega
      | cons y r =>
        simp only [List.map_cons] at hr ⊢
        rw [Lib.join_cons] at hr ⊢
        rw [Lib.joinTail, List.map_cons, List.flatten_cons]
        rw [Lib.joinTail] at hr
        simp only [List.length_append, List.length_cons, List.length_nil] at hr ⊢
        omega
  have := H l h2
  have e : (⟨#[44]⟩ : ByteArray).data.toList = [44] := rfl
  rw [e]
  omega
theorem name_small {n : ByteArray} (h : nmB n = true) : n.size ≤ 12 := by
  have h3 := Word.name_value _ h
  simp only [Word.value, Word.fits, Bool.and_eq_true, decide_eq_true_eq] at h3
  rw [size_list]
  exact h3.1.2
theorem aggB_size (a : Int) : (aggB a).size ≤ 5 := by
  rcases aggs5 a with rfl | rfl | rfl | rfl | ⟨k1, k2, k3, k4⟩
  · rw [aggB1]; decide
  · rw [aggB2]; decide
  · rw [aggB3]; decide
  · rw [aggB4]; decide
  · rw [aggB5 a k1 k2 k3 k4]; decide
theorem qright_small {q : Query} (h : qright q = true) : q.2.1.size ≤ 12 ∧ q.2.2.1.length ≤ 4 ∧ (∀ x ∈ q.2.2.1, x.2.1.size ≤ 12 ∧ x.2.2.size ≤ 12) ∧ (ptextB q.2.2.1).size ≤ 900 ∧ q.2.2.2.length ≤ 4 ∧ (∀ x ∈ q.2.2.2, x.size ≤ 12) ∧ (joinC q.2.2.2).size ≤ 60 := by
  simp only [qright, Bool.and_eq_true, decide_eq_true_eq] at h
  obtain ⟨⟨⟨ha, hn⟩, hm⟩, hb⟩ := h
  obtain ⟨b1, b2, b3⟩ := byE_ok hb
  obtain ⟨m1, m2, m3⟩ := pright_small hm
  have b4 : ∀ x ∈ q.2.2.2, x.size ≤ 12 := fun x hx => name_small (List.all_eq_true.1 b1 x hx)
  exact ⟨name_small hn, m1, m2, m3, b2, b4, joinC_size b2 b4⟩

/-- A query's box, and what lay ahead of it. -/
theorem box_on {ab : Nat} {x0 x1 x2 x3 : Value} {w W w3 : World}
    (h : W.cell? ⟨ab, 0, none⟩ = some x0 ∧ W.cell? ⟨ab, 1, none⟩ = some x1 ∧ W.cell? ⟨ab, 2, none⟩ = some x2 ∧ W.cell? ⟨ab, 3, none⟩ = some x3 ∧ Below ab w W) (n : Below W.heap.size W w3) :
    w3.cell? ⟨ab, 0, none⟩ = some x0 ∧ w3.cell? ⟨ab, 1, none⟩ = some x1 ∧ w3.cell? ⟨ab, 2, none⟩ = some x2 ∧ w3.cell? ⟨ab, 3, none⟩ = some x3 ∧ Below ab w w3 := by
  obtain ⟨h0, h1, h2, h3, h4⟩ := h
  have z0 := World.block_lt_of_cell? _ _ h0
  exact ⟨keepC n h0 z0, keepC n h1 z0, keepC n h2 z0, keepC n h3 z0, h4.trans (n.mono (Nat.le_of_lt z0))⟩
theorem box_drew {ab : Nat} {x0 x1 x2 x3 : Value} {w W : World}
    (h : W.cell? ⟨ab, 0, none⟩ = some x0 ∧ W.cell? ⟨ab, 1, none⟩ = some x1 ∧ W.cell? ⟨ab, 2, none⟩ = some x2 ∧ W.cell? ⟨ab, 3, none⟩ = some x3 ∧ Below ab w W) :
    W.drew.cell? ⟨ab, 0, none⟩ = some x0 ∧ W.drew.cell? ⟨ab, 1, none⟩ = some x1 ∧ W.drew.cell? ⟨ab, 2, none⟩ = some x2 ∧ W.drew.cell? ⟨ab, 3, none⟩ = some x3 ∧ Below ab w W.drew := ⟨h.1, h.2.1, h.2.2.1, h.2.2.2.1, h.2.2.2.2.drew⟩
theorem box_b {ab : Nat} {x0 x1 x2 x3 : Value} {w W : World}
    (h : W.cell? ⟨ab, 0, none⟩ = some x0 ∧ W.cell? ⟨ab, 1, none⟩ = some x1 ∧ W.cell? ⟨ab, 2, none⟩ = some x2 ∧ W.cell? ⟨ab, 3, none⟩ = some x3 ∧ Below ab w W) : Below ab w W := h.2.2.2.2
set_option maxRecDepth 100000 in
set_option maxHeartbeats 2000000 in
theorem qtext_any (v : Value) (q : Query) (w : World) (h : QRow w v q) (hz : q.2.1.size ≤ 281474976710656) (hn : q.2.2.1.length ≤ 1000000) (hm : ∀ x ∈ q.2.2.1, x.2.1.size ≤ 281474976710656 ∧ x.2.2.size ≤ 281474976710656) (hn2 : q.2.2.2.length ≤ 1000000) (hb : ∀ x ∈ q.2.2.2, x.size ≤ 281474976710656) :
    Calls Tryz.prog 11 #[v] w fun e w' => e = .returned (.string (qtextB q)) ∧ Below w.heap.size w w' := by
  obtain ⟨a, c, b, d, rfl, rm, rb⟩ := h.open
  have HR := Lib.hid (fun W (n : Below w.heap.size w W) => qright_any _ q W (h.on n) hz hn hm hn2 hb)
  clear h
  unfold qtextB
  cases hr : qright q
  · rw [hr] at HR
    rw [if_neg (by simp)]
    go_enter Tryz.func11, Tryz.ntmps11
    go_wp2_with fail
    refine (HR.out _ (aBelow _ _)).mono ?_
    rintro e w1 ⟨rfl, n1⟩
    have d1 := belowA n1
    go_wp2_with fail
    go_ret
    exact ⟨rfl, d1⟩
  · rw [hr] at HR
    rw [if_pos rfl]
    obtain ⟨z1, z2, z3, z4, z5, z6, z7⟩ := qright_small hr
    have z8 := aggB_size q.1
    have HW := Lib.hid (fun W => aggWord_any q.1 W)
    have HT := Lib.hid (fun W (n : Below w.heap.size w W) => textM_any _ q.2.2.1 W (rm.on n) (by omega) (fun x hx => by have := z3 x hx; omega) (by omega))
    have HJ : Hid (∀ W (n : Below w.heap.size w W), Calls Tryz.prog 32 #[.string ⟨#[44]⟩, .slice b q.2.2.2.length d] W fun e w' => e = .returned (.string (joinC q.2.2.2)) ∧ Below W.heap.size W w') := fun W n => (join_row _ q.2.2.2 ⟨#[44]⟩ W (rb.on n) (by omega) (by show (joinC q.2.2.2).size ≤ _; omega))
    have HQ2 : Hid (∀ t, (q.2.2.1 = [] → qt2 t q.2.2.1 = t) ∧ (¬ q.2.2.1 = [] → qt2 t q.2.2.1 = t ++ (⟨#[123]⟩ ++ ptextB q.2.2.1 ++ ⟨#[125]⟩))) := fun t => ⟨fun h => if_pos h, fun h => if_neg h⟩
    have HQ3 : Hid (∀ t, (q.2.2.2 = [] → qt3 t q.2.2.2 = t) ∧ (¬ q.2.2.2 = [] → qt3 t q.2.2.2 = t ++ (⟨#[32, 98, 121, 32]⟩ ++ joinC q.2.2.2))) := fun t => ⟨fun h => if_pos h, fun h => if_neg h⟩
    have HM0 : Hid (q.2.2.1 = [] ↔ q.2.2.1.length = 0) := List.length_eq_zero_iff.symm
    have HB0 : Hid (q.2.2.2 = [] ↔ q.2.2.2.length = 0) := List.length_eq_zero_iff.symm
    unfold qt1
    generalize aggB q.1 = ta at *
    clear rm rb hz hn hm hn2 hb z3 z6 hr
    obtain ⟨g, n, m, l⟩ := q
    dsimp only at *
    generalize ptextB m = tm at *
    generalize joinC l = tb at *
    generalize m.length = lm at *
    generalize l.length = lb at *
    have u1 : ¬ 9223372036854775807 < ta.size + 1 := by omega
    have u2 : ¬ 9223372036854775807 < ta.size + 1 + n.size := by omega
    go_enter Tryz.func11, Tryz.ntmps11
    go_wp2_with fail
    refine (HR.out _ (aBelow _ _)).mono ?_
    rintro e w1 ⟨rfl, n1⟩
    have c0 := newC (i := 0) n1
    have c1 := newC (i := 1) n1
    have c2 := newC (i := 2) n1
    have c3 := newC (i := 3) n1
    simp at c0 c1 c2 c3
    have d1 := belowA n1
    clear n1 HR
    go_wp2_with fail
    have hS := And.intro c0 (And.intro c1 (And.intro c2 (And.intro c3 d1)))
    clear c0 c1 c2 c3 d1
    generalize hg : w.heap.size = ab at *
    have HG := Lib.hid hg
    clear hg
    have hSd := box_drew hS
    go_region_held3 (fun w' => w'.cell? ⟨ab, 0, none⟩ = some (.int .i64 g) ∧ w'.cell? ⟨ab, 1, none⟩ = some (.string n) ∧ w'.cell? ⟨ab, 2, none⟩ = some (.slice a lm c) ∧ w'.cell? ⟨ab, 3, none⟩ = some (.slice b lb d) ∧ Below ab w w') (first | exact hSd)
      (first
        | (go_at_call 24; refine (HW.out _).mono ?_; rintro e w3 ⟨rfl, hw⟩; subst hw)
        | fail)
    clear hS
    have hS := hSd
    clear hSd HW
    generalize w1.drew = w2 at *
    have zt : (ta ++ ⟨#[32]⟩ ++ n).size ≤ 18 := by
      rw [ba_size, ba_size]
      have : (⟨#[32]⟩ : ByteArray).size = 1 := rfl
      omega
    obtain ⟨t1, HT1⟩ : ∃ t, Hid (ta ++ ⟨#[32]⟩ ++ n = t) := ⟨_, rfl⟩
    rw [HT1.out] at zt ⊢
    have u3 : ¬ 9223372036854775807 < 1 + tm.size := by omega
    have u4 : ¬ 9223372036854775807 < 1 + tm.size + 1 := by omega
    have u5 : ¬ 9223372036854775807 < t1.size + (1 + tm.size + 1) := by omega
    have u6 : ¬ 9223372036854775807 < 4 + tb.size := by omega
    have u7 : ¬ 9223372036854775807 < t1.size + (4 + tb.size) := by omega
    by_cases lm0 : lm = 0
    · by_cases lb0 : lb = 0
      · have e2 := HM0.out.2 lm0
        have E2 := Lib.hid (((HQ2.out t1).1 e2))
        have k2 : lm = 0 := lm0
        subst k2
        clear HQ2 HM0 lm0
        have e3 := HB0.out.2 lb0
        have E3 := Lib.hid (fun t => (HQ3.out t).1 e3)
        have k3 : lb = 0 := lb0
        subst k3
        clear HQ3 HB0 lb0
        obtain ⟨c0, c1, c2, c3, d1⟩ := id hS
        go_wp2_with fail
        clear c0 c1 c2 c3 d1
        go_ret
        have dd := hS.2.2.2.2
        rw [← HG.out] at dd
        refine ⟨?_, dd⟩
        rw [HT1.out, E2.out, E3.out]
        rfl
      · have e2 := HM0.out.2 lm0
        have E2 := Lib.hid (((HQ2.out t1).1 e2))
        have k2 : lm = 0 := lm0
        subst k2
        clear HQ2 HM0 lm0
        have E3 := Lib.hid (fun t => (HQ3.out t).2 (fun e => lb0 (HB0.out.1 e)))
        have k3 : (0 : Int) < (lb : Int) := by omega
        clear HQ3 HB0 lb0
        obtain ⟨c0, c1, c2, c3, d1⟩ := id hS
        go_wp2_with fail
        clear c0 c1 c2 c3 d1
        refine (HJ.out _ (box_b hS)).mono ?_
        rintro e w4 ⟨rfl, n4⟩
        have hS4 := box_on hS n4
        clear n4
        have hS := hS4
        go_wp2_with fail
        go_ret
        have dd := hS.2.2.2.2
        rw [← HG.out] at dd
        refine ⟨?_, dd⟩
        rw [HT1.out, E2.out, E3.out]
        rfl
    · by_cases lb0 : lb = 0
      · have E2 := Lib.hid (((HQ2.out t1).2 (fun e => lm0 (HM0.out.1 e))))
        have k2 : (0 : Int) < (lm : Int) := by omega
        clear HQ2 HM0 lm0
        have e3 := HB0.out.2 lb0
        have E3 := Lib.hid (fun t => (HQ3.out t).1 e3)
        have k3 : lb = 0 := lb0
        subst k3
        clear HQ3 HB0 lb0
        obtain ⟨c0, c1, c2, c3, d1⟩ := id hS
        go_wp2_with fail
        clear c0 c1 c2 c3 d1
        refine (HT.out _ (box_b hS)).mono ?_
        rintro e w3 ⟨rfl, n3⟩
        have hS3 := box_on hS n3
        clear n3
        obtain ⟨c0, c1, c2, c3, d1⟩ := id hS3
        obtain ⟨t2, HT2⟩ : ∃ t, Hid (t1 ++ (⟨#[123]⟩ ++ tm ++ ⟨#[125]⟩) = t) := ⟨_, rfl⟩
        have zt2 : t2.size ≤ 920 := by
          rw [← HT2.out, ba_size, ba_size, ba_size]
          have : (⟨#[123]⟩ : ByteArray).size = 1 := rfl
          have : (⟨#[125]⟩ : ByteArray).size = 1 := rfl
          omega
        have u8 : ¬ 9223372036854775807 < t2.size + (4 + tb.size) := by omega
        clear hS
        go_wp2_with fail
        clear c0 c1 c2 c3 d1
        have hS := hS3
        clear hS3
        go_ret
        have dd := hS.2.2.2.2
        rw [← HG.out] at dd
        refine ⟨?_, dd⟩
        rw [HT1.out, E2.out, E3.out]
        rw [HT2.out]
        rfl
      · have E2 := Lib.hid (((HQ2.out t1).2 (fun e => lm0 (HM0.out.1 e))))
        have k2 : (0 : Int) < (lm : Int) := by omega
        clear HQ2 HM0 lm0
        have E3 := Lib.hid (fun t => (HQ3.out t).2 (fun e => lb0 (HB0.out.1 e)))
        have k3 : (0 : Int) < (lb : Int) := by omega
        clear HQ3 HB0 lb0
        obtain ⟨c0, c1, c2, c3, d1⟩ := id hS
        go_wp2_with fail
        clear c0 c1 c2 c3 d1
        refine (HT.out _ (box_b hS)).mono ?_
        rintro e w3 ⟨rfl, n3⟩
        have hS3 := box_on hS n3
        clear n3
        obtain ⟨c0, c1, c2, c3, d1⟩ := id hS3
        obtain ⟨t2, HT2⟩ : ∃ t, Hid (t1 ++ (⟨#[123]⟩ ++ tm ++ ⟨#[125]⟩) = t) := ⟨_, rfl⟩
        have zt2 : t2.size ≤ 920 := by
          rw [← HT2.out, ba_size, ba_size, ba_size]
          have : (⟨#[123]⟩ : ByteArray).size = 1 := rfl
          have : (⟨#[125]⟩ : ByteArray).size = 1 := rfl
          omega
        have u8 : ¬ 9223372036854775807 < t2.size + (4 + tb.size) := by omega
        clear hS
        go_wp2_with fail
        clear c0 c1 c2 c3 d1
        have hS := hS3
        clear hS3
        refine (HJ.out _ (box_b hS)).mono ?_
        rintro e w4 ⟨rfl, n4⟩
        have hS4 := box_on hS n4
        clear n4
        have hS := hS4
        go_wp2_with fail
        go_ret
        have dd := hS.2.2.2.2
        rw [← HG.out] at dd
        refine ⟨?_, dd⟩
        rw [HT1.out, E2.out, E3.out]
        rw [HT2.out]
        rfl
end Go.Proofs.YtfohknpjlkjbbaaGreatDoor
