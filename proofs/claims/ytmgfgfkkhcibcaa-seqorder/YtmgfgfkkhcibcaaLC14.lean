/- Walk over Own14: the law SeqOrder. -/
import Derived.Test.YtmgfgfkkhcibcaaV14
namespace Go.Proofs.Ytmgfgfkkhcibcaa.Se
open Go Go.RowKit

theorem push_nil (m : List Wr) : pushQ [] m = if rightQ m then (m, 0) else ([], 9) := by unfold pushQ; rw [List.nil_append]
theorem pop_drop {m : List Wr} {k : Nat} (h : k < m.length) : popQ (m.drop k) = (m[k], m.drop (k + 1), true) := by rw [List.drop_eq_getElem_cons h]; rfl
theorem beq_self_ba2 (x : ByteArray) : (x.toList == x.toList) = true := by simp

set_option maxRecDepth 100000 in
set_option maxHeartbeats 4000000 in
theorem order_walk (O : Own14) (HA0 : ∀ w : World, Calls Try.prog 7 #[] w fun e w' => e = .returned (.bool true) ∧ Below w.heap.size w w') (v : Value) (m : List Wr) (w : World) (h : WRow w v m) (k1 : ∀ x ∈ m, okW x) :
    Calls Try.prog 5 #[v] w fun e w' => e = .returned (.bool true) ∧ Below w.heap.size w w' := by
  have HAl := Lib.hid HA0
  have H := Lib.hid h
  obtain ⟨a, c, rfl, hc, hl⟩ := h
  have HL := Lib.hid hl
  clear hl
  by_cases hm : 100 < m.length
  · have i1 : (100 : Int) < (m.length : Int) := by omega
    clear k1
    go_enter Try.func5, Try.ntmps5
    go_wp2_with fail
    refine (HAl.out _).mono ?_
    rintro e w1 ⟨rfl, n1⟩
    go_wp2_with fail
    go_ret
    exact ⟨rfl, n1⟩
  · have i1 : ¬ (100 : Int) < (m.length : Int) := by omega
    have HP := Lib.hid (fun W (d : Below w.heap.size w W) => O.push (.slice none 0 0) (.slice a m.length c) [] m W (GRow.nil W) (H.out.on d) (by simp) (by omega) (fun x hx => by cases hx) k1)
    rw [push_nil] at HP
    cases hr : rightQ m
    · rw [hr] at HP
      have HR := Lib.hid (fun W (d : Below w.heap.size w W) => refRight_any (.slice a m.length c) m W (H.out.on d) (by omega))
      rw [hr] at HR
      clear k1
      simp only [Bool.false_eq_true, if_false] at HP
      go_enter Try.func5, Try.ntmps5
      go_wp2_with fail
      refine (HAl.out _).mono ?_
      rintro e w1 ⟨rfl, n1⟩
      go_wp2_with fail
      refine (HP.out _ n1).mono ?_
      rintro e w2 ⟨⟨v2, rfl, h2⟩, n2⟩
      have n2 := n1.trans (n2.mono n1.size)
      obtain ⟨a2, c2, rfl, -, -⟩ := h2
      simp only [List.length_nil]
      go_wp2_with fail
      refine (HR.out _ n2).mono ?_
      rintro e w3 ⟨rfl, n3⟩
      go_wp2_with fail
      go_ret
      exact ⟨rfl, n2.trans (n3.mono n2.size)⟩
    · rw [hr] at HP
      have HO := Lib.hid (fun v W k (hk : k < m.length) (hv : WRow W v (m.drop k)) => O.pop v (m.drop k) W hv (by rw [List.length_drop]; omega) (fun x hx => k1 x (List.mem_of_mem_drop hx)))
      clear k1
      simp only [if_true] at HP
      go_enter Try.func5, Try.ntmps5
      go_wp2_with fail
      refine (HAl.out _).mono ?_
      rintro e w1 ⟨rfl, n1⟩
      go_wp2_with fail
      refine (HP.out _ n1).mono ?_
      rintro e w2 ⟨⟨v2, rfl, h2⟩, n2⟩
      have n2 := n1.trans (n2.mono n1.size)
      have H2 := Lib.hid (show WRow w2 v2 (m.drop 0) from h2)
      have D2 := Lib.hid n2
      obtain ⟨a2, c2, hv2, hc2, hl2⟩ := h2
      subst hv2
      clear n1 n2 HP hl2
      go_wp2_with fail
      go_loopw [3, 5] (fun sq i wr => ∃ (k : Nat) (qv : Value), k ≤ m.length ∧ i = .int .i64 k ∧ sq = qv ∧ Hid (WRow wr qv (m.drop k)) ∧ Hid (Below w.heap.size w wr)) (fun _ i _ => m.length - (intOf i).toNat)
      case atStart => exact ⟨0, _, Nat.zero_le _, rfl, rfl, H2, D2⟩
      case round =>
        obtain ⟨k, qv, hk, rfl, rfl, HQ, HD⟩ := hrel
        clear H2
        by_cases hlt : k < m.length
        · have i2 : (k : Int) < (m.length : Int) := by omega
          have i3 : (0 : Int) ≤ (k : Int) := by omega
          have HP := Lib.hid (HO.out _ wr k hlt HQ.out)
          rw [pop_drop hlt] at HP
          obtain ⟨b, o, rfl, hb, hL⟩ := HL.out (ne_of_lt hlt)
          obtain ⟨d0, d1, d2, d3⟩ := w_at (hL.on hb HD.out) k hlt
          have hb := Nat.lt_of_lt_of_le hb HD.out.size
          generalize m[k] = x at *
          obtain ⟨xs, xw, xk, xv⟩ := x
          simp only [wV] at HP
          simp only at d0 d1 d2 d3
          have q0 : (xs == xs) = true := by simp
          have q1 : (xw == xw) = true := by simp
          have q2 : (xk.toList == xk.toList) = true := beq_self_ba2 xk
          have q3 : (xv == xv) = true := by simp
          have i4 : IntKind.i64.wrap (IntKind.i64.wrap ((m.length : Int) - 1) - (k : Int)) = ((m.length - (k + 1) : Nat) : Int) := by rw [IntKind.wrap_i64, IntKind.wrap_i64]; omega
          clear hL HL HO
          go_wp2_with fail
          refine HP.out.mono ?_
          rintro e w3 ⟨⟨v3, rfl, h3⟩, n3⟩
          have D3 := Lib.hid (HD.out.trans (n3.mono HD.out.size))
          have d0 := keepC n3 d0 hb
          have d1 := keepC n3 d1 hb
          have d2 := keepC n3 d2 hb
          have d3 := keepC n3 d3 hb
          have hb3 := Nat.lt_of_lt_of_le hb n3.size
          have N4 := Lib.hid (aBelow w3 (.cells #[.int .i64 xs, .int .i64 xw, .string xk, .int .i64 xv] 29))
          have H4 := Lib.hid (h3.on N4.out)
          have D4 := Lib.hid (D3.out.trans (N4.out.mono D3.out.size))
          obtain ⟨a3, c3, rfl, -, -⟩ := h3
          obtain ⟨M, hM⟩ : ∃ M, (m.drop (k + 1)).length = M := ⟨_, rfl⟩
          have hM2 : m.length - (k + 1) = M := by rw [← hM, List.length_drop]
          rw [hM2] at i4
          rw [hM] at H4 ⊢
          have i5 : (M : Int) = (M : Int) := rfl
          have i6 : ((M : Int) == (M : Int)) = true := by simp
          have i7 : ((M : Int) != (m.length : Int) - 1 - (k : Int)) = false := by rw [show (m.length : Int) - 1 - (k : Int) = (M : Int) by omega]; simp
          clear n3 HP HD HQ hM hM2 N4 D3
          go_wp2_with fail
          go_quiet (fail)
          go_wp2_with fail
          exact ⟨⟨k + 1, _, by omega, by go_num, rfl, Lib.hid (H4.out.on ⟨rfl, rfl, rfl, Nat.le_refl _, fun _ _ => rfl⟩), Lib.hid (below_drewN D4.out _)⟩, by simp [intOf]; omega⟩
        · have i2 : ¬ (k : Int) < (m.length : Int) := by omega
          obtain ⟨a3, c3, rfl, -, -⟩ := HQ.out
          have hz : (m.drop k).length = 0 := by rw [List.length_drop]; omega
          rw [hz]
          go_wp2_with fail
          go_ret
          exact ⟨rfl, HD.out⟩
end Go.Proofs.Ytmgfgfkkhcibcaa.Se
