/- Walks of seq: the document's questions about queues: Great, Begins, Pending, Waits, Stable. -/
import Derived.Test.YtmgfgfkkhcibcaaW16
namespace Go.Proofs.Ytmgfgfkkhcibcaa.Se
open Go Go.RowKit

theorem any_takeL (f : List Wr → Bool) (L : List (List Wr)) (k : Nat) (h : k < L.length) : (L.take (k + 1)).any f = ((L.take k).any f || f L[k]) := by
  rw [List.take_succ_eq_append_getElem h, List.any_append]; simp
theorem any_all {f : List Wr → Bool} {L : List (List Wr)} {k : Nat} (hk : ¬ k < L.length) : (L.take k).any f = L.any f := by rw [List.take_of_length_le (by omega)]
theorem any_mem {f : List Wr → Bool} {L : List (List Wr)} {k : Nat} (hk : k < L.length) (h : f L[k] = true) : L.any f = true := List.any_eq_true.2 ⟨_, List.getElem_mem hk, h⟩

set_option maxHeartbeats 800000 in
theorem refGreat_any (v : Value) (L : List (List Wr)) (w : World) (h : LRow w v L) :
    Calls Try.prog 16 #[v] w fun e w' => e = .returned (.bool (greatL L)) ∧ w' = w := by
  obtain ⟨a, c, rfl, hc, hl⟩ := h.open
  have HL := Lib.hid hl
  clear hl h
  by_cases hn : 20 < L.length
  · have hg : greatL L = true := by simp [greatL, hn]
    rw [hg]
    have q1 : decide (20 < L.length) = true := decide_eq_true hn
    go_enter Try.func16, Try.ntmps16
    go_wp2_with fail
    go_ret
    exact ⟨rfl, rfl⟩
  · have hg : greatL L = L.any longQ := by simp [greatL, hn]
    rw [hg]
    obtain ⟨A, HA⟩ : ∃ A, Hid (L.any longQ = A) := ⟨_, Lib.hid rfl⟩
    rw [HA.out]
    have i0 : ¬ (20 : Int) < (L.length : Int) := by omega
    go_enter Try.func16, Try.ntmps16
    go_wp2_with fail
    go_loop [3] (fun i => ∃ k : Nat, k ≤ L.length ∧ i = .int .i64 k ∧ Hid ((L.take k).any longQ = false)) (fun i => L.length - (intOf i).toNat)
    case atStart => exact ⟨0, Nat.zero_le _, rfl, Lib.hid rfl⟩
    case round =>
      obtain ⟨k, hk, rfl, HT⟩ := hrel
      by_cases hlt : k < L.length
      · obtain ⟨b, o, s, rfl, hb, hs, a2, c2, rfl, hc2, -⟩ := HL.out k hlt
        have HK := Lib.hid (any_takeL longQ L k hlt)
        have HM := Lib.hid (fun h => any_mem (f := longQ) hlt h)
        have i1 : (k : Int) < (L.length : Int) := by omega
        have i2 : (0 : Int) ≤ (k : Int) := by omega
        generalize L[k] = q at *
        by_cases hq : 100 < q.length
        · have j1 : (100 : Int) < (q.length : Int) := by omega
          have hA : A = true := by rw [← HA.out]; exact HM.out (by simp [longQ, hq])
          subst hA
          go_wp2_with fail
          go_ret
          exact ⟨rfl, rfl⟩
        · have j1 : ¬ (100 : Int) < (q.length : Int) := by omega
          have HZ : Hid ((L.take (k + 1)).any longQ = false) := Lib.hid (by rw [HK.out, HT.out]; simp [longQ, hq])
          go_wp2_with fail
          exact ⟨⟨k + 1, by omega, by go_num, HZ⟩, by simp [intOf]; omega⟩
      · have i1 : ¬ (k : Int) < (L.length : Int) := by omega
        have hA : A = false := by rw [← HA.out, ← any_all hlt]; exact HT.out
        subst hA
        go_wp2_with fail
        go_ret
        exact ⟨rfl, rfl⟩

set_option maxHeartbeats 800000 in
theorem refPending_any (v : Value) (L : List (List Wr)) (w : World) (h : LRow w v L) (hn : L.length ≤ 1000000) (hb : ∀ k, pending (L.take k) ≤ 1000000000) :
    Calls Try.prog 20 #[v] w fun e w' => e = .returned (.int .i64 (pending L : Int)) ∧ w' = w := by
  obtain ⟨a, c, rfl, hc, hl⟩ := h.open
  have HL := Lib.hid hl
  clear hl h
  go_enter Try.func20, Try.ntmps20
  go_wp2_with fail
  go_loop [3, 4] (fun n i => ∃ k : Nat, k ≤ L.length ∧ i = .int .i64 k ∧ n = .int .i64 (pending (L.take k) : Int)) (fun _ i => L.length - (intOf i).toNat)
  case atStart => exact ⟨0, Nat.zero_le _, rfl, rfl⟩
  case round =>
    obtain ⟨k, hk, rfl, rfl⟩ := hrel
    by_cases hlt : k < L.length
    · obtain ⟨b, o, s, rfl, hb2, hs, a2, c2, rfl, hc2, -⟩ := HL.out k hlt
      have HK := Lib.hid (pending_take hlt)
      have h1 := hb k
      have h2 := hb (k + 1)
      rw [HK.out] at h2
      have i1 : (k : Int) < (L.length : Int) := by omega
      have i2 : (0 : Int) ≤ (k : Int) := by omega
      generalize L[k] = q at *
      generalize pending (L.take k) = n at *
      have i3 : IntKind.i64.wrap ((n : Int) + (q.length : Int)) = (n : Int) + (q.length : Int) := by rw [IntKind.wrap_i64]; omega
      go_wp2_with fail
      exact ⟨⟨k + 1, by omega, by go_num, by rw [HK.out, Int.natCast_add]⟩, by simp [intOf]; omega⟩
    · have i1 : ¬ (k : Int) < (L.length : Int) := by omega
      rw [List.take_of_length_le (by omega)]
      go_wp2_with fail
      go_ret
      exact ⟨rfl, rfl⟩

def endsLow (q : List Wr) : Bool := match q with | [] => false | x :: _ => decide (x.st < 1)
theorem begins_any (L : List (List Wr)) : begins L = !(L.any endsLow) := by
  unfold begins
  induction L with
  | nil => rfl
  | cons q L ih =>
    rw [List.all_cons, List.any_cons, ih, Bool.not_or]
    congr 1
    cases q with
    | nil => rfl
    | cons x r =>
      show decide (1 ≤ x.st) = !decide (x.st < 1)
      by_cases h : 1 ≤ x.st
      · rw [decide_eq_true h, decide_eq_false (by omega)]; rfl
      · rw [decide_eq_false h, decide_eq_true (by omega)]; rfl

set_option maxHeartbeats 800000 in
theorem refBegins_any (v : Value) (L : List (List Wr)) (w : World) (h : LRow w v L) (hn : L.length ≤ 1000000) :
    Calls Try.prog 21 #[v] w fun e w' => e = .returned (.bool (begins L)) ∧ w' = w := by
  obtain ⟨a, c, rfl, hc, hl⟩ := h.open
  have HL := Lib.hid hl
  clear hl h
  rw [begins_any]
  obtain ⟨A, HA⟩ : ∃ A, Hid (L.any endsLow = A) := ⟨_, Lib.hid rfl⟩
  rw [HA.out]
  go_enter Try.func21, Try.ntmps21
  go_wp2_with fail
  go_loop [3] (fun i => ∃ k : Nat, k ≤ L.length ∧ i = .int .i64 k ∧ Hid ((L.take k).any endsLow = false)) (fun i => L.length - (intOf i).toNat)
  case atStart => exact ⟨0, Nat.zero_le _, rfl, Lib.hid rfl⟩
  case round =>
    obtain ⟨k, hk, rfl, HT⟩ := hrel
    by_cases hlt : k < L.length
    · obtain ⟨b, o, s, rfl, hb2, hs, a2, c2, rfl, hc2, hw⟩ := HL.out k hlt
      have HK := Lib.hid (any_takeL endsLow L k hlt)
      have HM := Lib.hid (fun h => any_mem (f := endsLow) hlt h)
      have i1 : (k : Int) < (L.length : Int) := by omega
      have i2 : (0 : Int) ≤ (k : Int) := by omega
      generalize L[k] = q at *
      cases q with
      | nil =>
        have HZ : Hid ((L.take (k + 1)).any endsLow = false) := Lib.hid (by rw [HK.out, HT.out]; rfl)
        clear HM HK hw
        go_wp2_with fail
        exact ⟨⟨k + 1, by omega, by go_num, HZ⟩, by simp [intOf]; omega⟩
      | cons x r =>
        obtain ⟨b2, o2, rfl, hb3, hL⟩ := hw (by simp)
        obtain ⟨e0, -, -, -⟩ := w_at hL 0 (by simp)
        simp only [Nat.zero_mul, Nat.add_zero, List.getElem_cons_zero] at e0
        obtain ⟨N, hN⟩ : ∃ N, (x :: r).length = N := ⟨_, rfl⟩
        have hN0 : 0 < N := by rw [← hN]; simp
        rw [hN] at hs hc2
        have j1 : (0 : Int) < (N : Int) := by omega
        by_cases hq : x.st < 1
        · have hA : A = true := by rw [← HA.out]; exact HM.out (by simp [endsLow, hq])
          subst hA
          clear HK HM hL hN
          go_wp2_with fail
          go_ret
          exact ⟨rfl, rfl⟩
        · have HZ : Hid ((L.take (k + 1)).any endsLow = false) := Lib.hid (by rw [HK.out, HT.out]; simp [endsLow, hq])
          clear HK HM hL hN
          go_wp2_with fail
          exact ⟨⟨k + 1, by omega, by go_num, HZ⟩, by simp [intOf]; omega⟩
    · have i1 : ¬ (k : Int) < (L.length : Int) := by omega
      have hA : A = false := by rw [← HA.out, ← any_all hlt]; exact HT.out
      subst hA
      go_wp2_with fail
      go_ret
      exact ⟨rfl, rfl⟩
end Go.Proofs.Ytmgfgfkkhcibcaa.Se
