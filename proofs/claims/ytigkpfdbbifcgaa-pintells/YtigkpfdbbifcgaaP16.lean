/- Walks of pin: the document's Right, Same, Find, Floor. -/
import Derived.Test.YtigkpfdbbifcgaaM16
import Derived.Test.YtigkpfdbbifcgaaQ12
namespace Go.Proofs.Ytigkpfdbbifcgaa.Pj
open Go Go.RowKit

def before (l : List Pn) (k : Nat) : Option Int := if h : 0 < k ∧ k ≤ l.length then some (l[k - 1]'(by omega)).id else none
theorem before_zero (l : List Pn) : before l 0 = none := by simp [before]
theorem before_next {l : List Pn} {k : Nat} (h : k < l.length) : before l (k + 1) = some (l[k]).id := by simp [before, show k + 1 ≤ l.length by omega]
theorem before_at {l : List Pn} {k : Nat} (h0 : 0 < k) (h : k ≤ l.length) : before l k = some (l[k - 1]'(by omega)).id := by simp [before, h0, h]
theorem drop_cons {l : List Pn} {k : Nat} (h : k < l.length) : l.drop k = l[k] :: l.drop (k + 1) := List.drop_eq_getElem_cons h

set_option maxHeartbeats 400000 in
theorem refRight_zero (a : Option Addr) (c : Nat) (w : World) :
    Calls Try.prog 16 #[.slice a 0 c] w fun e w' => e = .returned (.bool true) ∧ w' = w := by
  go_enter Try.func16, Try.ntmps16
  go_wp2
  refine wp_loop_rounds 1 ?_
  rw [rounds_succ]
  go_wp2
  go_ret
  exact ⟨rfl, rfl⟩
set_option maxHeartbeats 4000000 in
theorem refRight_cells (b o c : Nat) (l : List Pn) (w : World) (hL : PLies w b o l) (hn : l.length ≤ 1000000) :
    Calls Try.prog 16 #[.slice (some ⟨b, o, none⟩) l.length c] w fun e w' => e = .returned (.bool (rightP l)) ∧ Below w.heap.size w w' := by
  have HL := Lib.hid hL
  clear hL
  obtain ⟨A, HA⟩ : ∃ A, Hid (rightP l = A) := ⟨_, Lib.hid rfl⟩
  rw [HA.out]
  go_enter Try.func16, Try.ntmps16
  go_wp2
  go_loopw [3] (fun i wr => ∃ k nq : Nat, k ≤ l.length ∧ i = .int .i64 k ∧ wr = w.drewN nq ∧ Hid (A = rightFrom (before l k) (l.drop k))) (fun i _ => l.length - (intOf i).toNat)
  case atStart => exact ⟨0, 0, Nat.zero_le _, rfl, rfl, Lib.hid (by rw [← HA.out, before_zero]; rfl)⟩
  case round =>
    obtain ⟨k, nq, hk, rfl, rfl, HT⟩ := hrel
    by_cases hlt : k < l.length
    · obtain ⟨e0, e1⟩ := p_at HL.out k hlt
      have HT1 := HT.out
      rw [drop_cons hlt] at HT1
      have HN := before_next hlt
      have i1 : (k : Int) < (l.length : Int) := by omega
      have i2 : (0 : Int) ≤ (k : Int) := by omega
      by_cases hk0 : 0 < k
      · obtain ⟨p0, -⟩ := p_at HL.out (k - 1) (by omega)
        have HB := before_at hk0 hk
        have i3 : (0 : Int) < (k : Int) := by omega
        have i4 : ((k - 1 : Nat) : Int) = (k : Int) - 1 := by omega
        obtain ⟨y, hy⟩ : ∃ y, (l[k - 1]'(by omega)).id = y := ⟨_, rfl⟩
        rw [hy] at p0 HB
        rw [HB] at HT1
        generalize l[k] = x at *
        obtain ⟨xi, xs⟩ := x
        simp only at e0 e1 HT1 HN
        rw [rightFrom] at HT1
        clear hy HB HT
        by_cases c1 : xs < 0
        · have hA : A = false := by rw [HT1]; simp; omega
          subst hA
          clear HT1 HN
          have g1 : decide (xs < 0) = true := decide_eq_true c1
          go_wp2_with fail
          go_quiet (fail)
          go_wp2_with fail
          go_ret
          exact ⟨rfl, by first | exact below_drewN (below_drewN (Below.refl _ _) _) _ | exact below_drewN (Below.refl _ _) _⟩
        · by_cases c2 : y < xi
          · have HZ := Lib.hid (show A = rightFrom (before l (k + 1)) (l.drop (k + 1)) by rw [HN, HT1, decide_eq_true (show 0 ≤ xs by omega), decide_eq_true c2]; simp)
            clear HT1 HN
            have g1 : decide (xs < 0) = false := decide_eq_false c1
            have g2 : decide (xi ≤ y) = false := by simp; omega
            go_wp2_with fail
            go_quiet (fail)
            go_wp2_with fail
            exact ⟨⟨k + 1, _, by omega, by go_num, rfl, HZ⟩, by simp [intOf]; omega⟩
          · have hA : A = false := by rw [HT1]; simp [c2]
            subst hA
            clear HT1 HN
            have g1 : decide (xs < 0) = false := decide_eq_false c1
            have g2 : decide (xi ≤ y) = true := by simp; omega
            go_wp2_with fail
            go_quiet (fail)
            go_wp2_with fail
            go_ret
            exact ⟨rfl, by first | exact below_drewN (below_drewN (Below.refl _ _) _) _ | exact below_drewN (Below.refl _ _) _⟩
      · have hk1 : k = 0 := by omega
        subst hk1
        rw [before_zero] at HT1
        generalize l[0] = x at *
        obtain ⟨xi, xs⟩ := x
        simp only [Nat.zero_mul, Nat.add_zero] at e0 e1 HT1 HN
        rw [rightFrom] at HT1
        clear HT
        by_cases c1 : xs < 0
        · have hA : A = false := by rw [HT1]; simp; omega
          subst hA
          clear HT1 HN
          have g1 : decide (xs < 0) = true := decide_eq_true c1
          go_wp2_with fail
          go_quiet (fail)
          go_wp2_with fail
          go_ret
          exact ⟨rfl, by first | exact below_drewN (below_drewN (Below.refl _ _) _) _ | exact below_drewN (Below.refl _ _) _⟩
        · have HZ := Lib.hid (show A = rightFrom (before l (0 + 1)) (l.drop (0 + 1)) by rw [HN, HT1, decide_eq_true (show 0 ≤ xs by omega)]; simp)
          clear HT1 HN
          have g1 : decide (xs < 0) = false := decide_eq_false c1
          go_wp2_with fail
          go_quiet (fail)
          go_wp2_with fail
          exact ⟨⟨0 + 1, _, by omega, by go_num, rfl, HZ⟩, by simp [intOf]; omega⟩
    · have hA : A = true := by
        have := HT.out
        rw [List.drop_of_length_le (by omega)] at this
        rw [this]; cases before l k <;> rfl
      subst hA
      clear HT HA
      go_wp2_with fail
      go_ret
      exact ⟨rfl, by first | exact below_drewN (below_drewN (Below.refl _ _) _) _ | exact below_drewN (Below.refl _ _) _⟩
theorem refRight_any (v : Value) (l : List Pn) (w : World) (h : PRow w v l) (hn : l.length ≤ 1000000) :
    Calls Try.prog 16 #[v] w fun e w' => e = .returned (.bool (rightP l)) ∧ Below w.heap.size w w' := by
  obtain ⟨a, c, rfl, hc, hl⟩ := h
  rcases List.eq_nil_or_concat l with hnil | ⟨l0, x0, hcons⟩
  · subst hnil
    exact (refRight_zero a c w).mono fun e w' ⟨he, hw⟩ => ⟨he, hw ▸ Below.refl _ _⟩
  · have hne : l ≠ [] := by rw [hcons]; simp
    obtain ⟨b, o, rfl, hb, hL⟩ := hl hne
    exact refRight_cells b o c l w hL hn
end Go.Proofs.Ytigkpfdbbifcgaa.Pj
