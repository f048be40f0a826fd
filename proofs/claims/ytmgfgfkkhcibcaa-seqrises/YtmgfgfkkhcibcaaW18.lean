/- Walks of seq: the document's Waits and Stable. -/
import Derived.Test.YtmgfgfkkhcibcaaW17
namespace Go.Proofs.Ytmgfgfkkhcibcaa.Se
open Go Go.RowKit

def hasW (win : Int) (q : List Wr) : Bool := q.any fun x => decide (x.win = win)
theorem waits_any (win : Int) (L : List (List Wr)) : waits win L = L.any (hasW win) := rfl
theorem any_takeW (f : Wr → Bool) (q : List Wr) (k : Nat) (h : k < q.length) : (q.take (k + 1)).any f = ((q.take k).any f || f q[k]) := by
  rw [List.take_succ_eq_append_getElem h, List.any_append]; simp
theorem any_allW {f : Wr → Bool} {q : List Wr} {k : Nat} (hk : ¬ k < q.length) : (q.take k).any f = q.any f := by rw [List.take_of_length_le (by omega)]
theorem any_memW {f : Wr → Bool} {q : List Wr} {k : Nat} (hk : k < q.length) (h : f q[k] = true) : q.any f = true := List.any_eq_true.2 ⟨_, List.getElem_mem hk, h⟩

set_option maxHeartbeats 800000 in
theorem refWaits_any (win : Int) (v : Value) (L : List (List Wr)) (w : World) (h : LRow w v L) (hn : L.length ≤ 1000000) (hq : ∀ q ∈ L, q.length ≤ 1000000) :
    Calls Try.prog 18 #[.int .i64 win, v] w fun e w' => e = .returned (.bool (waits win L)) ∧ w' = w := by
  obtain ⟨a, c, rfl, hc, hl⟩ := h.open
  have HL := Lib.hid hl
  have HQ := Lib.hid (fun k (hk : k < L.length) => hq _ (List.getElem_mem hk))
  clear hl h hq
  rw [waits_any]
  obtain ⟨A, HA⟩ : ∃ A, Hid (L.any (hasW win) = A) := ⟨_, Lib.hid rfl⟩
  rw [HA.out]
  go_enter Try.func18, Try.ntmps18
  go_wp2_with fail
  go_loop [5] (fun i => ∃ k : Nat, k ≤ L.length ∧ i = .int .i64 k ∧ Hid ((L.take k).any (hasW win) = false)) (fun i => L.length - (intOf i).toNat)
  case atStart => exact ⟨0, Nat.zero_le _, rfl, Lib.hid rfl⟩
  case round =>
    obtain ⟨k, hk, rfl, HT⟩ := hrel
    by_cases hlt : k < L.length
    · obtain ⟨b, o, s, rfl, hb2, hs, a2, c2, rfl, hc2, hw⟩ := HL.out k hlt
      have hql := HQ.out k hlt
      have HK := Lib.hid (any_takeL (hasW win) L k hlt)
      have HM := Lib.hid (fun h => any_mem (f := hasW win) hlt h)
      have i1 : (k : Int) < (L.length : Int) := by omega
      have i2 : (0 : Int) ≤ (k : Int) := by omega
      generalize L[k] = q at *
      have HW := Lib.hid hw
      clear hw
      go_wp2_with fail
      go_loop [6] (fun j => ∃ m : Nat, m ≤ q.length ∧ j = .int .i64 m ∧ Hid ((q.take m).any (fun x => decide (x.win = win)) = false)) (fun j => q.length - (intOf j).toNat)
      case atStart => exact ⟨0, Nat.zero_le _, rfl, Lib.hid rfl⟩
      case round =>
        obtain ⟨m, hm, rfl, HTQ⟩ := hrel
        by_cases hmt : m < q.length
        · obtain ⟨b2, o2, rfl, hb3, hL⟩ := HW.out (ne_of_lt hmt)
          obtain ⟨-, e1, -, -⟩ := w_at hL m hmt
          have HK2 := Lib.hid (any_takeW (fun x => decide (x.win = win)) q m hmt)
          have HM2 := Lib.hid (fun h => any_memW (f := fun x => decide (x.win = win)) hmt h)
          have j1 : (m : Int) < (q.length : Int) := by omega
          have j2 : (0 : Int) ≤ (m : Int) := by omega
          generalize q[m] = x at *
          by_cases hx : x.win = win
          · have hA : A = true := by rw [← HA.out]; exact HM.out (HM2.out (by simp [hx]))
            subst hA
            clear HK HM HK2 HM2 hL
            have g1 : (x.win == win) = true := by simp [hx]
            go_wp2_with fail
            go_ret
            exact ⟨rfl, rfl⟩
          · have HZ : Hid ((q.take (m + 1)).any (fun x => decide (x.win = win)) = false) := Lib.hid (by rw [HK2.out, HTQ.out]; simp [hx])
            have g1 : (x.win == win) = false := by simp [hx]
            clear HK HM HK2 HM2 hL
            go_wp2_with fail
            exact ⟨⟨m + 1, by omega, by go_num, HZ⟩, by simp [intOf]; omega⟩
        · have j1 : ¬ (m : Int) < (q.length : Int) := by omega
          have HZ : Hid ((L.take (k + 1)).any (hasW win) = false) := Lib.hid (by rw [HK.out, HT.out]; show (false || hasW win q) = false; rw [Bool.false_or, hasW, ← any_allW hmt]; exact HTQ.out)
          clear HK HM
          go_wp2_with fail
          exact ⟨⟨k + 1, by omega, by go_num, HZ⟩, by simp [intOf]; omega⟩
    · have i1 : ¬ (k : Int) < (L.length : Int) := by omega
      have hA : A = false := by rw [← HA.out, ← any_all hlt]; exact HT.out
      subst hA
      go_wp2_with fail
      go_ret
      exact ⟨rfl, rfl⟩

/-! ### Stable -/
def optV (m : Option Int) : Int := match m with | none => 0 | some x => x
def optB (m : Option Int) : Bool := match m with | none => false | some _ => true
theorem opt_eq (m : Option Int) : m = if optB m then some (optV m) else none := by cases m <;> rfl

set_option maxHeartbeats 800000 in
theorem refStable_any (last : Int) (v : Value) (L : List (List Wr)) (w : World) (h : LRow w v L) (hn : L.length ≤ 1000000) (hbg : begins L = true) (hw64 : ∀ q ∈ L, ∀ x ∈ q, x.st ≤ 9223372036854775807) :
    Calls Try.prog 23 #[.int .i64 last, v] w fun e w' => e = .returned (.int .i64 (stable last L)) ∧ w' = w := by
  obtain ⟨a, c, rfl, hc, hl⟩ := h.open
  have HL := Lib.hid hl
  have HS : Hid (∀ m, least L = some m → 1 ≤ m ∧ m ≤ 9223372036854775807) := Lib.hid (fun m hm => by
    rcases fold_in L none m hm with h1 | ⟨q, hq, y, s, e, hy⟩
    · cases h1
    · subst e; exact ⟨hy ▸ begins_at hbg hq, hy ▸ hw64 _ hq y List.mem_cons_self⟩)
  clear hl h hbg hw64
  obtain ⟨S, HSt⟩ : ∃ S, Hid (stable last L = S) := ⟨_, Lib.hid rfl⟩
  rw [HSt.out]
  go_enter Try.func23, Try.ntmps23
  go_wp2_with fail
  go_loop [5, 6, 7] (fun sv sb i => ∃ k : Nat, k ≤ L.length ∧ i = .int .i64 k ∧ sv = .int .i64 (optV (least (L.take k))) ∧ sb = .bool (optB (least (L.take k)))) (fun _ _ i => L.length - (intOf i).toNat)
  case atStart => exact ⟨0, Nat.zero_le _, rfl, rfl, rfl⟩
  case round =>
    obtain ⟨k, hk, rfl, rfl, rfl⟩ := hrel
    by_cases hlt : k < L.length
    · obtain ⟨b, o, s, rfl, hb2, hs, a2, c2, rfl, hc2, hw⟩ := HL.out k hlt
      have HK := Lib.hid (least_take hlt)
      have i1 : (k : Int) < (L.length : Int) := by omega
      have i2 : (0 : Int) ≤ (k : Int) := by omega
      generalize L[k] = q at *
      generalize least (L.take k) = m at *
      cases q with
      | nil =>
        have HZ : Hid (least (L.take (k + 1)) = m) := HK
        clear hw HK
        go_wp2_with fail
        exact ⟨⟨k + 1, by omega, by go_num, by rw [HZ.out], by rw [HZ.out]⟩, by simp [intOf]; omega⟩
      | cons x r =>
        obtain ⟨b2, o2, rfl, hb3, hL⟩ := hw (by simp)
        obtain ⟨e0, -, -, -⟩ := w_at hL 0 (by simp)
        simp only [Nat.zero_mul, Nat.add_zero, List.getElem_cons_zero] at e0
        obtain ⟨N, hN⟩ : ∃ N, (x :: r).length = N := ⟨_, rfl⟩
        have hN0 : 0 < N := by rw [← hN]; simp
        rw [hN] at hs hc2
        have j1 : (0 : Int) < (N : Int) := by omega
        clear hL hN
        obtain ⟨xs, xw, xk, xv⟩ := x
        simp only at e0
        cases m with
        | none =>
          have HZ : Hid (least (L.take (k + 1)) = some xs) := HK
          clear HK
          show Code.wp _ _ _ _ _
          simp only [optV, optB]
          go_wp2_with fail
          exact ⟨⟨k + 1, by omega, by go_num, by rw [HZ.out], by rw [HZ.out]⟩, by simp [intOf]; omega⟩
        | some y =>
          by_cases hq : xs < y
          · have HZ : Hid (least (L.take (k + 1)) = some xs) := Lib.hid (by rw [HK.out]; show (if xs < y then some xs else some y) = _; rw [if_pos hq])
            clear HK
            simp only [optV, optB]
            go_wp2_with fail
            exact ⟨⟨k + 1, by omega, by go_num, by rw [HZ.out], by rw [HZ.out]⟩, by simp [intOf]; omega⟩
          · have HZ : Hid (least (L.take (k + 1)) = some y) := Lib.hid (by rw [HK.out]; show (if xs < y then some xs else some y) = _; rw [if_neg hq])
            clear HK
            simp only [optV, optB]
            go_wp2_with fail
            exact ⟨⟨k + 1, by omega, by go_num, by rw [HZ.out], by rw [HZ.out]⟩, by simp [intOf]; omega⟩
    · have i1 : ¬ (k : Int) < (L.length : Int) := by omega
      rw [List.take_of_length_le (by omega)]
      have HE : S = match least L with | none => last | some m => m - 1 := HSt.out.symm.trans rfl
      clear HSt
      have hs := HS.out
      generalize least L = m at *
      cases m with
      | none =>
        simp only at HE
        subst HE
        simp only [optV, optB]
        go_wp2_with fail
        go_ret
        exact ⟨rfl, rfl⟩
      | some y =>
        simp only at HE
        subst HE
        obtain ⟨g1, g2⟩ := hs y rfl
        have g3 : IntKind.i64.wrap (y - 1) = y - 1 := by rw [IntKind.wrap_i64]; omega
        clear hs HS
        simp only [optV, optB]
        go_wp2_with fail
        go_ret
        exact ⟨rfl, rfl⟩
end Go.Proofs.Ytmgfgfkkhcibcaa.Se
