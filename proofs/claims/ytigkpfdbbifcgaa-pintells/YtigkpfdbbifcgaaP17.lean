/- Walks of pin: the document's Same, Find, Floor. -/
import Derived.Test.YtigkpfdbbifcgaaM16
import Derived.Test.YtigkpfdbbifcgaaQ12
namespace Go.Proofs.Ytigkpfdbbifcgaa.Pj
open Go Go.RowKit

def eqP (x y : Pn) : Bool := decide (x.id = y.id) && decide (x.st = y.st)
theorem eqP_true (x y : Pn) : eqP x y = true ↔ x = y := by
  unfold eqP
  rw [Bool.and_eq_true, decide_eq_true_eq, decide_eq_true_eq]
  constructor
  · rintro ⟨h0, h1⟩
    cases x; cases y
    simp_all
  · rintro rfl
    exact ⟨rfl, rfl⟩
theorem takeP_on {l m : List Pn} {k : Nat} (h1 : k < l.length) (h2 : k < m.length) (h : l.take k = m.take k) (he : eqP l[k] m[k] = true) : l.take (k + 1) = m.take (k + 1) := by
  rw [List.take_succ_eq_append_getElem h1, List.take_succ_eq_append_getElem h2, h, (eqP_true _ _).1 he]
theorem takeP_off {l m : List Pn} {k : Nat} (h1 : k < l.length) (h2 : k < m.length) (he : eqP l[k] m[k] = false) : sameP l m = false := by
  rw [sameP, decide_eq_false_iff_not]
  rintro rfl
  have := (eqP_true l[k] l[k]).2 rfl
  rw [this] at he
  cases he
theorem ret_bool {a b : Bool} (h : a = b) : Ending.returned (.bool a) = .returned (.bool b) := by rw [h]

set_option maxHeartbeats 4000000 in
theorem refSame_cells (a1 a2 : Option Addr) (c1 c2 : Nat) (l m : List Pn) (w : World) (h1 : PAt w a1 l) (h2 : PAt w a2 m) (hn : l.length ≤ 1000000) :
    Calls Try.prog 12 #[.slice a1 l.length c1, .slice a2 m.length c2] w fun e w' => e = .returned (.bool (sameP l m)) ∧ Below w.heap.size w w' := by
  have H1 := Lib.hid h1
  have H2 := Lib.hid h2
  clear h1 h2
  by_cases hlm : l.length = m.length
  · obtain ⟨A, HA⟩ : ∃ A, Hid (sameP l m = A) := ⟨_, Lib.hid rfl⟩
    rw [HA.out]
    rw [← hlm]
    have HLM := Lib.hid hlm
    clear hlm
    go_enter Try.func12, Try.ntmps12
    go_wp2
    go_loopw [5] (fun i wr => ∃ k nq : Nat, k ≤ l.length ∧ i = .int .i64 k ∧ wr = w.drewN nq ∧ Hid (l.take k = m.take k)) (fun i _ => l.length - (intOf i).toNat)
    case atStart => exact ⟨0, 0, Nat.zero_le _, rfl, rfl, Lib.hid rfl⟩
    case round =>
      obtain ⟨k, nq, hk, rfl, rfl, HT⟩ := hrel
      by_cases hlt : k < l.length
      · have hlt2 : k < m.length := by have := HLM.out; omega
        obtain ⟨b1, o1, rfl, hb1, hL1⟩ := H1.out (ne_of_lt hlt)
        obtain ⟨b2, o2, rfl, hb2, hL2⟩ := H2.out (ne_of_lt hlt2)
        obtain ⟨d0, d1⟩ := p_at hL1 k hlt
        obtain ⟨e0, e1⟩ := p_at hL2 k hlt2
        have i1 : (k : Int) < (l.length : Int) := by omega
        have i2 : (0 : Int) ≤ (k : Int) := by omega
        have HN : Hid (eqP l[k] m[k] = true → l.take (k + 1) = m.take (k + 1)) := Lib.hid fun h => takeP_on hlt hlt2 HT.out h
        have HF : Hid (eqP l[k] m[k] = false → A = false) := Lib.hid fun h => (HA.out).symm.trans (takeP_off hlt hlt2 h)
        generalize l[k] = x at *
        generalize m[k] = y at *
        have Q0 : Hid ((x.id == y.id) = decide (x.id = y.id)) := Lib.hid (by by_cases h : x.id = y.id <;> simp [h])
        have Q1 : Hid ((x.st == y.st) = decide (x.st = y.st)) := Lib.hid (by by_cases h : x.st = y.st <;> simp [h])
        unfold eqP at HN HF
        generalize decide (x.id = y.id) = r0 at *
        generalize decide (x.st = y.st) = r1 at *
        clear hL1 hL2 hb1 hb2 H1 H2 HT hlt2
        have q0 := Q0.out
        have q1 := Q1.out
        cases r0
        · have HF := Lib.hid (HF.out rfl)
          go_wp2_with fail
          go_quiet (fail)
          go_wp2_with fail
          go_ret
          exact ⟨ret_bool (HF.out).symm, by first | exact below_drewN (below_drewN (Below.refl _ _) _) _ | exact below_drewN (Below.refl _ _) _⟩
        · cases r1
          · have HF := Lib.hid (HF.out rfl)
            go_wp2_with fail
            go_quiet (fail)
            go_wp2_with fail
            go_ret
            exact ⟨ret_bool (HF.out).symm, by first | exact below_drewN (below_drewN (Below.refl _ _) _) _ | exact below_drewN (Below.refl _ _) _⟩
          · have HN := Lib.hid (HN.out rfl)
            go_wp2_with fail
            go_quiet (fail)
            go_wp2_with fail
            exact ⟨⟨k + 1, _, by omega, by go_num, rfl, HN⟩, by simp [intOf]; omega⟩
      · have HT2 : Hid (A = true) := Lib.hid (by
          have h1 := HT.out
          have h2 := HLM.out
          rw [List.take_of_length_le (by omega), List.take_of_length_le (by omega)] at h1
          rw [← HA.out]
          exact decide_eq_true h1)
        go_wp2
        go_ret
        exact ⟨ret_bool (HT2.out).symm, below_drewN (Below.refl _ _) _⟩
  · have hd : sameP l m = false := decide_eq_false fun e => hlm (by rw [e])
    rw [hd]
    have i1 : ¬ (l.length : Int) = (m.length : Int) := by omega
    go_enter Try.func12, Try.ntmps12
    go_wp2
    go_ret
    exact ⟨rfl, Below.refl _ _⟩
theorem refSame_any (v1 v2 : Value) (l m : List Pn) (w : World) (h1 : PRow w v1 l) (h2 : PRow w v2 m) (hn : l.length ≤ 1000000) :
    Calls Try.prog 12 #[v1, v2] w fun e w' => e = .returned (.bool (sameP l m)) ∧ Below w.heap.size w w' := by
  obtain ⟨a1, c1, rfl, hc1, hl1⟩ := h1
  obtain ⟨a2, c2, rfl, hc2, hl2⟩ := h2
  exact refSame_cells a1 a2 c1 c2 l m w hl1 hl2 hn

def NoneUp (id : Int) (l : List Pn) (k : Nat) : Prop := ∀ i (h : i < l.length), i < k → ¬ (l[i]).id = id
theorem none_zero (id : Int) (l : List Pn) : NoneUp id l 0 := fun _ _ h => absurd h (Nat.not_lt_zero _)
theorem none_next {id : Int} {l : List Pn} {k : Nat} (h : NoneUp id l k) (hk : k < l.length) (h1 : ¬ (l[k]).id = id) : NoneUp id l (k + 1) := by
  intro i hi hik
  rcases Nat.lt_or_ge i k with e | e
  · exact h i hi e
  · have : i = k := by omega
    subst this
    exact h1
theorem none_here {id : Int} {l : List Pn} {k : Nat} (h : NoneUp id l k) (hk : k < l.length) (h1 : (l[k]).id = id) : idxF id l = k := idxF_of (by omega) h (fun _ => h1)
theorem none_all {id : Int} {l : List Pn} {k : Nat} (h : NoneUp id l k) (hk : ¬ k < l.length) : idxF id l = l.length := idxF_of (Nat.le_refl _) (fun i hi _ => h i hi (by omega)) (fun h => absurd h (Nat.lt_irrefl _))

set_option maxHeartbeats 800000 in
theorem refFind_any (v : Value) (l : List Pn) (id : Int) (w : World) (h : PRow w v l) (hn : l.length ≤ 1000000) :
    Calls Try.prog 14 #[v, .int .i64 id] w fun e w' => e = .returned (.tuple #[.int .i64 (findP l id).1, .bool (findP l id).2]) ∧ w' = w := by
  obtain ⟨a, c, rfl, hc, hl⟩ := h
  have HL := Lib.hid hl
  clear hl
  obtain ⟨F, HF⟩ : ∃ F, Hid (findP l id = F) := ⟨_, Lib.hid rfl⟩
  rw [HF.out]
  go_enter Try.func14, Try.ntmps14
  go_wp2_with fail
  go_loop [6] (fun i => ∃ k : Nat, k ≤ l.length ∧ i = .int .i64 k ∧ Hid (NoneUp id l k)) (fun i => l.length - (intOf i).toNat)
  case atStart => exact ⟨0, Nat.zero_le _, rfl, Lib.hid (none_zero _ _)⟩
  case round =>
    obtain ⟨k, hk, rfl, HT⟩ := hrel
    by_cases hlt : k < l.length
    · obtain ⟨b, o, rfl, hb, hL⟩ := HL.out (ne_of_lt hlt)
      obtain ⟨e0, e1⟩ := p_at hL k hlt
      have i1 : (k : Int) < (l.length : Int) := by omega
      have i2 : (0 : Int) ≤ (k : Int) := by omega
      have HX := Lib.hid (fun h1 => none_next HT.out hlt h1)
      have HY : Hid ((l[k]).id = id → F = ((l[k]).st, true)) := Lib.hid (fun h1 => by rw [← HF.out, findP, none_here HT.out hlt h1, List.getElem?_eq_getElem hlt])
      generalize l[k] = x at *
      obtain ⟨xi, xs⟩ := x
      simp only at e0 e1 HX HY
      clear hL HT
      by_cases hx : xi = id
      · have hF := HY.out hx
        subst hF
        have g1 : (xi == id) = true := by simp [hx]
        go_wp2_with fail
        exact bodyPost_ret (v := .tuple #[.int .i64 xs, .bool true]) (by simp [results, Try.results14, go_sem]) rfl ⟨rfl, rfl⟩
      · have HZ := Lib.hid (HX.out hx)
        have g1 : (xi == id) = false := by simp [hx]
        clear HX HY
        go_wp2_with fail
        exact ⟨⟨k + 1, by omega, by go_num, HZ⟩, by simp [intOf]; omega⟩
    · have i1 : ¬ (k : Int) < (l.length : Int) := by omega
      have hF : F = (0, false) := by rw [← HF.out, findP, none_all HT.out hlt, List.getElem?_eq_none (Nat.le_refl _)]
      subst hF
      go_wp2_with fail
      exact bodyPost_ret (v := .tuple #[.int .i64 0, .bool false]) (by simp [results, Try.results14, go_sem]) rfl ⟨rfl, rfl⟩

set_option maxHeartbeats 800000 in
theorem refFloor_any (s : Int) (v : Value) (l : List Pn) (w : World) (h : PRow w v l) (hn : l.length ≤ 1000000) :
    Calls Try.prog 19 #[.int .i64 s, v] w fun e w' => e = .returned (.int .i64 (floorP s l)) ∧ w' = w := by
  obtain ⟨a, c, rfl, hc, hl⟩ := h
  have HL := Lib.hid hl
  clear hl
  go_enter Try.func19, Try.ntmps19
  go_wp2_with fail
  go_loop [0, 5] (fun ss i => ∃ k : Nat, k ≤ l.length ∧ i = .int .i64 k ∧ ss = .int .i64 (floorP s (l.take k))) (fun _ i => l.length - (intOf i).toNat)
  case atStart => exact ⟨0, Nat.zero_le _, rfl, rfl⟩
  case round =>
    obtain ⟨k, hk, rfl, rfl⟩ := hrel
    by_cases hlt : k < l.length
    · obtain ⟨b, o, rfl, hb, hL⟩ := HL.out (ne_of_lt hlt)
      obtain ⟨e0, e1⟩ := p_at hL k hlt
      have HK := Lib.hid (floorP_take (s := s) hlt)
      have i1 : (k : Int) < (l.length : Int) := by omega
      have i2 : (0 : Int) ≤ (k : Int) := by omega
      generalize l[k] = x at *
      obtain ⟨xi, xs⟩ := x
      simp only at e0 e1 HK
      generalize floorP s (l.take k) = t at *
      by_cases hx : xs < t
      · have HZ := Lib.hid (HK.out.trans (if_pos hx))
        clear HK hL
        go_wp2_with fail
        exact ⟨⟨k + 1, by omega, by go_num, by rw [HZ.out]⟩, by simp [intOf]; omega⟩
      · have HZ := Lib.hid (HK.out.trans (if_neg hx))
        clear HK hL
        go_wp2_with fail
        exact ⟨⟨k + 1, by omega, by go_num, by rw [HZ.out]⟩, by simp [intOf]; omega⟩
    · have i1 : ¬ (k : Int) < (l.length : Int) := by omega
      rw [List.take_of_length_le (by omega)]
      go_wp2_with fail
      go_ret
      exact ⟨rfl, rfl⟩
end Go.Proofs.Ytigkpfdbbifcgaa.Pj
