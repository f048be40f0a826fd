/- Walks of seq: the document's Right, Push, Pop, Same. -/
import Derived.Test.YtmgfgfkkhcibcaaM14
import Derived.Test.YtmgfgfkkhcibcaaQ12
namespace Go.Proofs.Ytmgfgfkkhcibcaa.Se
open Go Go.RowKit

def before (l : List Wr) (k : Nat) : Int := if h : 0 < k ∧ k ≤ l.length then (l[k - 1]'(by omega)).st else 0
theorem before_zero (l : List Wr) : before l 0 = 0 := by simp [before]
theorem before_next {l : List Wr} {k : Nat} (h : k < l.length) : before l (k + 1) = (l[k]).st := by simp [before, show k + 1 ≤ l.length by omega]
theorem before_at {l : List Wr} {k : Nat} (h0 : 0 < k) (h : k ≤ l.length) : before l k = (l[k - 1]'(by omega)).st := by simp [before, h0, h]
theorem right_step {l : List Wr} {a : Int} {k : Nat} (h : k < l.length) : rightFrom a (l.drop k) = (decide (a < (l[k]).st) && (decide ((l[k]).st ≤ 1000000000000000) && rightFrom (l[k]).st (l.drop (k + 1)))) := by
  rw [List.drop_eq_getElem_cons h, rightFrom]

set_option maxHeartbeats 400000 in
theorem refRight_zero (a : Option Addr) (c : Nat) (w : World) :
    Calls Try.prog 14 #[.slice a 0 c] w fun e w' => e = .returned (.bool true) ∧ w' = w := by
  go_enter Try.func14, Try.ntmps14
  go_wp2
  refine wp_loop_rounds 1 ?_
  rw [rounds_succ]
  go_wp2
  go_ret
  exact ⟨rfl, rfl⟩
set_option maxHeartbeats 6000000 in
theorem refRight_cells (b o c : Nat) (l : List Wr) (w : World) (hL : WLies w b o l) (hn : l.length ≤ 1000000) :
    Calls Try.prog 14 #[.slice (some ⟨b, o, none⟩) l.length c] w fun e w' => e = .returned (.bool (rightQ l)) ∧ Below w.heap.size w w' := by
  have HL := Lib.hid hL
  clear hL
  obtain ⟨A, HA⟩ : ∃ A, Hid (rightQ l = A) := ⟨_, Lib.hid rfl⟩
  rw [HA.out]
  go_enter Try.func14, Try.ntmps14
  go_wp2
  go_loopw [3] (fun i wr => ∃ k nq : Nat, k ≤ l.length ∧ i = .int .i64 k ∧ wr = w.drewN nq ∧ Hid (A = rightFrom (before l k) (l.drop k) ∧ (0 < k → 1 ≤ before l k))) (fun i _ => l.length - (intOf i).toNat)
  case atStart => exact ⟨0, 0, Nat.zero_le _, rfl, rfl, Lib.hid ⟨by rw [← HA.out, before_zero]; rfl, fun h => absurd h (by omega)⟩⟩
  case round =>
    obtain ⟨k, nq, hk, rfl, rfl, HT⟩ := hrel
    by_cases hlt : k < l.length
    · obtain ⟨e0, -, -, -⟩ := w_at HL.out k hlt
      obtain ⟨HT1, HT2⟩ := HT.out
      rw [right_step hlt] at HT1
      have HN := before_next hlt
      have i1 : (k : Int) < (l.length : Int) := by omega
      have i2 : (0 : Int) ≤ (k : Int) := by omega
      by_cases hk0 : 0 < k
      · obtain ⟨p0, -, -, -⟩ := w_at HL.out (k - 1) (by omega)
        have HB := before_at hk0 hk
        have i3 : (0 : Int) < (k : Int) := by omega
        have i4 : ((k - 1 : Nat) : Int) = (k : Int) - 1 := by omega
        have HT2 := HT2 hk0
        rw [← HB] at p0
        obtain ⟨y, hy⟩ : ∃ y, before l k = y := ⟨_, rfl⟩
        rw [hy] at p0 HT1 HT2
        obtain ⟨x, hx⟩ : ∃ x, (l[k]).st = x := ⟨_, rfl⟩
        rw [hx] at e0 HT1 HN
        clear hx hy HB HT
        by_cases c1 : y < x
        · by_cases c2 : x ≤ 1000000000000000
          · have HZ := Lib.hid (show A = rightFrom (before l (k + 1)) (l.drop (k + 1)) ∧ (0 < k + 1 → 1 ≤ before l (k + 1)) by rw [HN, HT1]; exact ⟨by simp [c1, c2], fun _ => by omega⟩)
            clear HT1 HN
            have g1 : decide (x < 1) = false := by simp; omega
            have g2 : decide ((1000000000000000 : Int) < x) = false := by simp; omega
            have g3 : decide (x ≤ y) = false := by simp; omega
            go_wp2_with fail
            go_quiet (fail)
            go_wp2_with fail
            exact ⟨⟨k + 1, _, by omega, by go_num, rfl, HZ⟩, by simp [intOf]; omega⟩
          · have hA : A = false := by rw [HT1]; simp [c2]
            subst hA
            clear HT1 HN HA
            have g1 : decide (x < 1) = false := by simp; omega
            have g2 : decide ((1000000000000000 : Int) < x) = true := by simp; omega
            go_wp2_with fail
            go_quiet (fail)
            go_wp2_with fail
            go_ret
            exact ⟨rfl, by first | exact below_drewN (below_drewN (Below.refl _ _) _) _ | exact below_drewN (Below.refl _ _) _⟩
        · have hA : A = false := by rw [HT1]; simp [c1]
          subst hA
          clear HT1 HN HA
          have g3 : decide (x ≤ y) = true := by simp; omega
          by_cases g0 : x < 1
          · have g1 : decide (x < 1) = true := by simp; omega
            go_wp2_with fail
            go_quiet (fail)
            go_wp2_with fail
            go_ret
            exact ⟨rfl, by first | exact below_drewN (below_drewN (Below.refl _ _) _) _ | exact below_drewN (Below.refl _ _) _⟩
          · have g1 : decide (x < 1) = false := by simp; omega
            by_cases g0 : (1000000000000000 : Int) < x
            · have g2 : decide ((1000000000000000 : Int) < x) = true := by simp; omega
              go_wp2_with fail
              go_quiet (fail)
              go_wp2_with fail
              go_ret
              exact ⟨rfl, by first | exact below_drewN (below_drewN (Below.refl _ _) _) _ | exact below_drewN (Below.refl _ _) _⟩
            · have g2 : decide ((1000000000000000 : Int) < x) = false := by simp; omega
              go_wp2_with fail
              go_quiet (fail)
              go_wp2_with fail
              go_ret
              exact ⟨rfl, by first | exact below_drewN (below_drewN (Below.refl _ _) _) _ | exact below_drewN (Below.refl _ _) _⟩
      · have hk00 : k = 0 := by omega
        subst hk00
        rw [before_zero] at HT1
        rw [Nat.zero_mul, Nat.add_zero] at e0
        obtain ⟨x, hx⟩ : ∃ x, (l[0]).st = x := ⟨_, rfl⟩
        rw [hx] at e0 HT1 HN
        clear hx HT HT2 hk0
        by_cases c1 : x < 1
        · have hA : A = false := by rw [HT1]; simp; intro h; omega
          subst hA
          clear HT1 HN HA
          have g1 : decide (x < 1) = true := by simp; omega
          go_wp2_with fail
          go_quiet (fail)
          go_wp2_with fail
          go_ret
          exact ⟨rfl, by first | exact below_drewN (below_drewN (Below.refl _ _) _) _ | exact below_drewN (Below.refl _ _) _⟩
        · by_cases c2 : x ≤ 1000000000000000
          · have HZ := Lib.hid (show A = rightFrom (before l (0 + 1)) (l.drop (0 + 1)) ∧ (0 < 0 + 1 → 1 ≤ before l (0 + 1)) by rw [HN, HT1]; exact ⟨by simp [c2]; intro _; omega, fun _ => (by omega)⟩)
            clear HT1 HN
            have g1 : decide (x < 1) = false := by simp; omega
            have g2 : decide ((1000000000000000 : Int) < x) = false := by simp; omega
            go_wp2_with fail
            go_quiet (fail)
            go_wp2_with fail
            exact ⟨⟨0 + 1, _, by omega, by go_num, rfl, HZ⟩, by simp [intOf]; omega⟩
          · have hA : A = false := by rw [HT1]; simp [c2]
            subst hA
            clear HT1 HN HA
            have g1 : decide (x < 1) = false := by simp; omega
            have g2 : decide ((1000000000000000 : Int) < x) = true := by simp; omega
            go_wp2_with fail
            go_quiet (fail)
            go_wp2_with fail
            go_ret
            exact ⟨rfl, by first | exact below_drewN (below_drewN (Below.refl _ _) _) _ | exact below_drewN (Below.refl _ _) _⟩
    · have hA : A = true := by
        have := HT.out.1
        rw [List.drop_of_length_le (by omega)] at this
        exact this
      subst hA
      clear HT HA
      go_wp2_with fail
      go_ret
      exact ⟨rfl, by first | exact below_drewN (below_drewN (Below.refl _ _) _) _ | exact below_drewN (Below.refl _ _) _⟩
theorem refRight_any (v : Value) (l : List Wr) (w : World) (h : WRow w v l) (hn : l.length ≤ 1000000) :
    Calls Try.prog 14 #[v] w fun e w' => e = .returned (.bool (rightQ l)) ∧ Below w.heap.size w w' := by
  obtain ⟨a, c, rfl, hc, hl⟩ := h
  rcases List.eq_nil_or_concat l with hnil | ⟨l0, x0, hcons⟩
  · subst hnil
    exact (refRight_zero a c w).mono fun e w' ⟨he, hw⟩ => ⟨he, hw ▸ Below.refl _ _⟩
  · have hne : l ≠ [] := by rw [hcons]; simp
    obtain ⟨b, o, rfl, hb, hL⟩ := hl hne
    exact refRight_cells b o c l w hL hn

/-! ### the same ones -/
def eqB (x y : ByteArray) : Bool := x.data.toList == y.data.toList
theorem eqB_true (x y : ByteArray) : eqB x y = true ↔ x = y := by
  unfold eqB
  rw [beq_iff_eq]
  constructor
  · intro h
    cases x; cases y
    simp at h
    simp [h]
  · rintro rfl; rfl
theorem beq_ba (x y : ByteArray) : (x.toList == y.toList) = eqB x y := by rw [ByteArray.toList_eq, ByteArray.toList_eq]; rfl
def eqW (x y : Wr) : Bool := decide (x.st = y.st) && (decide (x.win = y.win) && (eqB x.key y.key && decide (x.val = y.val)))
theorem eqW_true (x y : Wr) : eqW x y = true ↔ x = y := by
  unfold eqW
  rw [Bool.and_eq_true, Bool.and_eq_true, Bool.and_eq_true, eqB_true, decide_eq_true_eq, decide_eq_true_eq, decide_eq_true_eq]
  constructor
  · rintro ⟨h0, h1, h2, h3⟩
    cases x; cases y
    simp_all
  · rintro rfl
    exact ⟨rfl, rfl, rfl, rfl⟩
theorem takeW_on {l m : List Wr} {k : Nat} (h1 : k < l.length) (h2 : k < m.length) (h : l.take k = m.take k) (he : eqW l[k] m[k] = true) : l.take (k + 1) = m.take (k + 1) := by
  rw [List.take_succ_eq_append_getElem h1, List.take_succ_eq_append_getElem h2, h, (eqW_true _ _).1 he]
theorem takeW_off {l m : List Wr} {k : Nat} (h1 : k < l.length) (h2 : k < m.length) (he : eqW l[k] m[k] = false) : sameQ l m = false := by
  rw [sameQ, decide_eq_false_iff_not]
  rintro rfl
  have := (eqW_true l[k] l[k]).2 rfl
  rw [this] at he
  cases he
theorem ret_bool {a b : Bool} (h : a = b) : Ending.returned (.bool a) = .returned (.bool b) := by rw [h]

set_option maxHeartbeats 4000000 in
theorem refSame_cells (a1 a2 : Option Addr) (c1 c2 : Nat) (l m : List Wr) (w : World) (h1 : WAt w a1 l) (h2 : WAt w a2 m) (hn : l.length ≤ 1000000) :
    Calls Try.prog 12 #[.slice a1 l.length c1, .slice a2 m.length c2] w fun e w' => e = .returned (.bool (sameQ l m)) ∧ Below w.heap.size w w' := by
  have H1 := Lib.hid h1
  have H2 := Lib.hid h2
  clear h1 h2
  by_cases hlm : l.length = m.length
  · obtain ⟨A, HA⟩ : ∃ A, Hid (sameQ l m = A) := ⟨_, Lib.hid rfl⟩
    rw [HA.out]
    rw [← hlm]
    have HLM := Lib.hid hlm
    clear hlm
    go_enter Try.func12, Try.ntmps12
    go_wp2
    go_loopw [5] (fun i wr => ∃ k nq : Nat, k ≤ l.length ∧ i = .int .i64 k ∧ wr = w.drewN nq ∧ Hid (l.take k = m.take k)) (fun i _ => l.length - (intOf i).toNat)
    case atStart => exact ⟨0, 0, Nat.zero_le _, rfl, rfl, Lib.hid rfl⟩
    case round =>
      obtain ⟨k, nq, hk, rfl, rfl, HT⟩ := hrel
      by_cases hlt : k < l.length
      · have hlt2 : k < m.length := by have := HLM.out; omega
        obtain ⟨b1, o1, rfl, hb1, hL1⟩ := H1.out (ne_of_lt hlt)
        obtain ⟨b2, o2, rfl, hb2, hL2⟩ := H2.out (ne_of_lt hlt2)
        obtain ⟨d0, d1, d2, d3⟩ := w_at hL1 k hlt
        obtain ⟨e0, e1, e2, e3⟩ := w_at hL2 k hlt2
        have i1 : (k : Int) < (l.length : Int) := by omega
        have i2 : (0 : Int) ≤ (k : Int) := by omega
        have HN : Hid (eqW l[k] m[k] = true → l.take (k + 1) = m.take (k + 1)) := Lib.hid fun h => takeW_on hlt hlt2 HT.out h
        have HF : Hid (eqW l[k] m[k] = false → A = false) := Lib.hid fun h => (HA.out).symm.trans (takeW_off hlt hlt2 h)
        generalize l[k] = x at *
        generalize m[k] = y at *
        have Q0 : Hid ((x.st == y.st) = decide (x.st = y.st)) := Lib.hid (by by_cases h : x.st = y.st <;> simp [h])
        have Q1 : Hid ((x.win == y.win) = decide (x.win = y.win)) := Lib.hid (by by_cases h : x.win = y.win <;> simp [h])
        have Q2 := Lib.hid (beq_ba x.key y.key)
        have Q3 : Hid ((x.val == y.val) = decide (x.val = y.val)) := Lib.hid (by by_cases h : x.val = y.val <;> simp [h])
        unfold eqW at HN HF
        generalize decide (x.st = y.st) = r0 at *
        generalize decide (x.win = y.win) = r1 at *
        generalize eqB x.key y.key = r2 at *
        generalize decide (x.val = y.val) = r3 at *
        clear hL1 hL2 hb1 hb2 H1 H2 HT hlt2
        have q0 := Q0.out
        have q1 := Q1.out
        have q2 := Q2.out
        have q3 := Q3.out
        cases r0
        · have HF := Lib.hid (HF.out rfl)
          go_wp2_with fail
          go_quiet (fail)
          go_wp2_with fail
          go_ret
          exact ⟨ret_bool (HF.out).symm, by first | exact below_drewN (below_drewN (Below.refl _ _) _) _ | exact below_drewN (Below.refl _ _) _⟩
        · cases r1
          · have HF := Lib.hid (HF.out rfl)
            go_wp2_with fail
            go_quiet (fail)
            go_wp2_with fail
            go_ret
            exact ⟨ret_bool (HF.out).symm, by first | exact below_drewN (below_drewN (Below.refl _ _) _) _ | exact below_drewN (Below.refl _ _) _⟩
          · cases r2
            · have HF := Lib.hid (HF.out rfl)
              go_wp2_with fail
              go_quiet (fail)
              go_wp2_with fail
              go_ret
              exact ⟨ret_bool (HF.out).symm, by first | exact below_drewN (below_drewN (Below.refl _ _) _) _ | exact below_drewN (Below.refl _ _) _⟩
            · cases r3
              · have HF := Lib.hid (HF.out rfl)
                go_wp2_with fail
                go_quiet (fail)
                go_wp2_with fail
                go_ret
                exact ⟨ret_bool (HF.out).symm, by first | exact below_drewN (below_drewN (Below.refl _ _) _) _ | exact below_drewN (Below.refl _ _) _⟩
              · have HN := Lib.hid (HN.out rfl)
                go_wp2_with fail
                go_quiet (fail)
                go_wp2_with fail
                exact ⟨⟨k + 1, _, by omega, by go_num, rfl, HN⟩, by simp [intOf]; omega⟩
      · have HT2 : Hid (A = true) := Lib.hid (by
          have h1 := HT.out
          have h2 := HLM.out
          rw [List.take_of_length_le (by omega), List.take_of_length_le (by omega)] at h1
          rw [← HA.out]
          exact decide_eq_true h1)
        go_wp2
        go_ret
        exact ⟨ret_bool (HT2.out).symm, below_drewN (Below.refl _ _) _⟩
  · have hd : sameQ l m = false := decide_eq_false fun e => hlm (by rw [e])
    rw [hd]
    have i1 : ¬ (l.length : Int) = (m.length : Int) := by omega
    go_enter Try.func12, Try.ntmps12
    go_wp2
    go_ret
    exact ⟨rfl, Below.refl _ _⟩
theorem refSame_any (v1 v2 : Value) (l m : List Wr) (w : World) (h1 : WRow w v1 l) (h2 : WRow w v2 m) (hn : l.length ≤ 1000000) :
    Calls Try.prog 12 #[v1, v2] w fun e w' => e = .returned (.bool (sameQ l m)) ∧ Below w.heap.size w w' := by
  obtain ⟨a1, c1, rfl, hc1, hl1⟩ := h1
  obtain ⟨a2, c2, rfl, hc2, hl2⟩ := h2
  exact refSame_cells a1 a2 c1 c2 l m w hl1 hl2 hn
end Go.Proofs.Ytmgfgfkkhcibcaa.Se
