/- Walks: the document's Right of a query. Walks: the document's names of aggs, and the number of a word. -/
import Derived.Test.YtfohknpjlkjbbaaGreatDoorQ3
namespace Go.Proofs.YtfohknpjlkjbbaaGreatDoor
open Go Go.RowKit Tg Pk Ky Qy

theorem qright_eq (q : Query) : qright q = (decide (1 ≤ q.1) && (decide (q.1 ≤ 4) && (nmB q.2.1 && (pright q.2.2.1 && decide (byE q.2.2.2 = 0))))) := by
  unfold qright aggOk
  simp only [Bool.and_assoc]

set_option maxHeartbeats 1000000 in
theorem refQright_any (v : Value) (q : Query) (w : World) (h : QRow w v q) (hz : q.2.1.size ≤ 281474976710656) (hn : q.2.2.1.length ≤ 1000000) (hm : ∀ x ∈ q.2.2.1, x.2.1.size ≤ 281474976710656 ∧ x.2.2.size ≤ 281474976710656) (hn2 : q.2.2.2.length ≤ 1000000) (hb : ∀ x ∈ q.2.2.2, x.size ≤ 281474976710656) :
    Calls Tryz.prog 10 #[v] w fun e w' => e = .returned (.bool (qright q)) ∧ Below w.heap.size w w' := by
  obtain ⟨a, c, b, d, rfl, rm, rb⟩ := h.open
  clear h
  have H0 : Hid (∀ W, Calls Tryz.prog 28 #[.string q.2.1] W fun e w' => e = .returned (.bool (nmB q.2.1)) ∧ w' = W) := fun W => refName_any q.2.1 W (by omega)
  have H1 := Lib.hid (fun W (n : Below w.heap.size w W) => refRightM_any _ q.2.2.1 W (rm.on n) hn hm)
  have H2 := Lib.hid (fun W (n : Below w.heap.size w W) => refNames_any _ q.2.2.2 W (rb.on n) hn2 hb)
  rw [qright_eq]
  generalize pright q.2.2.1 = dm at *
  generalize nmB q.2.1 = dn at *
  clear rm rb hn hn2 hm hb hz
  by_cases g1 : 1 ≤ q.1
  · by_cases g2 : q.1 ≤ 4
    · rw [decide_eq_true g1, decide_eq_true g2, Bool.true_and, Bool.true_and]
      cases dn
      · go_enter Tryz.func10, Tryz.ntmps10
        go_wp2_with fail
        refine (H0.out _).mono ?_
        rintro e w1 ⟨rfl, hw⟩
        have hw := hw.symm
        subst hw
        go_wp2_with fail
        go_ret
        exact ⟨rfl, aBelow _ _⟩
      · cases dm
        · go_enter Tryz.func10, Tryz.ntmps10
          go_wp2_with fail
          refine (H0.out _).mono ?_
          rintro e w1 ⟨rfl, hw⟩
          have hw := hw.symm
          subst hw
          go_wp2_with fail
          refine (H1.out _ (aBelow _ _)).mono ?_
          rintro e w2 ⟨rfl, n2⟩
          have d2 := belowA n2
          go_wp2_with fail
          go_ret
          exact ⟨rfl, d2⟩
        · generalize byE q.2.2.2 = E at *
          by_cases g3 : E = 0
          all_goals
            have ge : (E == 0) = decide (E = 0) := by simp [g3]
            go_enter Tryz.func10, Tryz.ntmps10
            go_wp2_with fail
            refine (H0.out _).mono ?_
            rintro e w1 ⟨rfl, hw⟩
            have hw := hw.symm
            subst hw
            go_wp2_with fail
            refine (H1.out _ (aBelow _ _)).mono ?_
            rintro e w2 ⟨rfl, n2⟩
            have d2 := belowA n2
            have c3 := newC (i := 3) n2
            simp at c3
            clear n2
            go_wp2_with fail
            refine (H2.out _ d2).mono ?_
            rintro e w3 ⟨rfl, n3⟩
            have d3 := d2.trans (n3.mono d2.size)
            go_wp2_with fail
            go_ret
            exact ⟨by simp [g3], d3⟩
    · rw [decide_eq_true g1, decide_eq_false g2, Bool.true_and, Bool.false_and]
      go_enter Tryz.func10, Tryz.ntmps10
      go_wp2_with fail
      go_ret
      exact ⟨rfl, aBelow _ _⟩
  · rw [decide_eq_false g1, Bool.false_and]
    have g1 : q.1 < 1 := by omega
    go_enter Tryz.func10, Tryz.ntmps10
    go_wp2_with fail
    go_ret
    exact ⟨rfl, aBelow _ _⟩
end Go.Proofs.YtfohknpjlkjbbaaGreatDoor
namespace Go.Proofs.YtfohknpjlkjbbaaGreatDoor
open Go Go.RowKit Tg Pk Ky Qy

def aggsO : Obj := .cells #[.string ⟨#[]⟩, .string ⟨#[99, 111, 117, 110, 116]⟩, .string ⟨#[115, 117, 109]⟩, .string ⟨#[109, 105, 110]⟩, .string ⟨#[109, 97, 120]⟩] 9
set_option maxHeartbeats 400000 in
theorem refAggs_any (w : World) :
    Calls Tryz.prog 33 #[] w fun e w' => e = .returned (.slice (some ⟨w.heap.size, 0, none⟩) 5 5) ∧ w' = w.alloc aggsO := by
  go_enter Tryz.func33, Tryz.ntmps33
  go_wp2
  go_ret
  exact ⟨rfl, rfl⟩
theorem aggs_at (w : World) : (w.alloc aggsO).cell? ⟨w.heap.size, 1, none⟩ = some (.string ⟨#[99, 111, 117, 110, 116]⟩) ∧ (w.alloc aggsO).cell? ⟨w.heap.size, 2, none⟩ = some (.string ⟨#[115, 117, 109]⟩) ∧ (w.alloc aggsO).cell? ⟨w.heap.size, 3, none⟩ = some (.string ⟨#[109, 105, 110]⟩) ∧ (w.alloc aggsO).cell? ⟨w.heap.size, 4, none⟩ = some (.string ⟨#[109, 97, 120]⟩) := by
  simp [aggsO]
def isAgg1 (s : ByteArray) : Bool := eqB ⟨#[99, 111, 117, 110, 116]⟩ s
def isAgg2 (s : ByteArray) : Bool := eqB ⟨#[115, 117, 109]⟩ s
def isAgg3 (s : ByteArray) : Bool := eqB ⟨#[109, 105, 110]⟩ s
def isAgg4 (s : ByteArray) : Bool := eqB ⟨#[109, 97, 120]⟩ s
theorem aggN_eq (s : ByteArray) : aggN s.data.toList = if isAgg1 s then 1 else if isAgg2 s then 2 else if isAgg3 s then 3 else if isAgg4 s then 4 else 0 := by
  have H : ∀ (l : List UInt8), ((l == s.data.toList) = true) = (s.data.toList = l) := fun l => by
    rw [beq_iff_eq]
    exact propext ⟨Eq.symm, Eq.symm⟩
  unfold aggN isAgg1 isAgg2 isAgg3 isAgg4 eqB
  simp only [H]

set_option maxHeartbeats 1000000 in
theorem refAgg_any (s : ByteArray) (w : World) :
    Calls Tryz.prog 43 #[.string s] w fun e w' => e = .returned (.int .i64 (aggN s.data.toList)) ∧ Below w.heap.size w w' := by
  rw [aggN_eq]
  obtain ⟨a1, a2, a3, a4⟩ := aggs_at w
  unfold isAgg1 isAgg2 isAgg3 isAgg4
  generalize (⟨#[99, 111, 117, 110, 116]⟩ : ByteArray) = t1 at *
  generalize (⟨#[115, 117, 109]⟩ : ByteArray) = t2 at *
  generalize (⟨#[109, 105, 110]⟩ : ByteArray) = t3 at *
  generalize (⟨#[109, 97, 120]⟩ : ByteArray) = t4 at *
  have q1 := beq_ba t1 s
  have q2 := beq_ba t2 s
  have q3 := beq_ba t3 s
  have q4 := beq_ba t4 s
  generalize eqB t1 s = p1 at *
  generalize eqB t2 s = p2 at *
  generalize eqB t3 s = p3 at *
  generalize eqB t4 s = p4 at *
  have d := aBelow w aggsO
  have HR := Lib.hid (refAggs_any w)
  generalize w.alloc aggsO = wa at *
  cases p1
  · cases p2
    · cases p3
      · cases p4
        · go_enter Tryz.func43, Tryz.ntmps43
          go_wp2_with fail
          refine (HR.out).mono ?_
          rintro e w1 ⟨rfl, hw⟩
          subst hw
          go_wp2_with fail
          refine wp_loop_rounds 5 ?_
          rw [rounds_succ]
          go_wp2_with fail
          rw [rounds_succ]
          go_wp2_with fail
          rw [rounds_succ]
          go_wp2_with fail
          rw [rounds_succ]
          go_wp2_with fail
          rw [rounds_succ]
          go_wp2_with fail
          go_ret
          exact ⟨rfl, d⟩
        · go_enter Tryz.func43, Tryz.ntmps43
          go_wp2_with fail
          refine (HR.out).mono ?_
          rintro e w1 ⟨rfl, hw⟩
          subst hw
          go_wp2_with fail
          refine wp_loop_rounds 4 ?_
          rw [rounds_succ]
          go_wp2_with fail
          rw [rounds_succ]
          go_wp2_with fail
          rw [rounds_succ]
          go_wp2_with fail
          rw [rounds_succ]
          go_wp2_with fail
          go_ret
          exact ⟨rfl, d⟩
      · go_enter Tryz.func43, Tryz.ntmps43
        go_wp2_with fail
        refine (HR.out).mono ?_
        rintro e w1 ⟨rfl, hw⟩
        subst hw
        go_wp2_with fail
        refine wp_loop_rounds 3 ?_
        rw [rounds_succ]
        go_wp2_with fail
        rw [rounds_succ]
        go_wp2_with fail
        rw [rounds_succ]
        go_wp2_with fail
        go_ret
        exact ⟨rfl, d⟩
    · go_enter Tryz.func43, Tryz.ntmps43
      go_wp2_with fail
      refine (HR.out).mono ?_
      rintro e w1 ⟨rfl, hw⟩
      subst hw
      go_wp2_with fail
      refine wp_loop_rounds 2 ?_
      rw [rounds_succ]
      go_wp2_with fail
      rw [rounds_succ]
      go_wp2_with fail
      go_ret
      exact ⟨rfl, d⟩
  · go_enter Tryz.func43, Tryz.ntmps43
    go_wp2_with fail
    refine (HR.out).mono ?_
    rintro e w1 ⟨rfl, hw⟩
    subst hw
    go_wp2_with fail
    refine wp_loop_rounds 1 ?_
    rw [rounds_succ]
    go_wp2_with fail
    go_ret
    exact ⟨rfl, d⟩
end Go.Proofs.YtfohknpjlkjbbaaGreatDoor
