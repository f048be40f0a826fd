/- A walk of the law ChainFolds. -/
import Derived.Test.YtecfjifipbabiaaV6
import Derived.Test.YtecfjifipbabiaaV7
namespace Go.Proofs.Ytecfjifipbabiaa.Ch
open Go Go.RowKit Go.Sort Go.Lib Cl Ce

theorem folded_ok {l : List Int} (h : ∀ x ∈ l, ok64 x) : ∀ k, k ≤ 1000000 → ∀ v ∈ folded l k, okV v
  | 0, _ => fun v hv => by rw [folded_zero] at hv; cases hv
  | k + 1, hk => fun v hv => by
    rw [folded_succ] at hv
    rcases List.mem_append.1 hv with hv | hv
    · exact folded_ok h k (by omega) v hv
    · rw [List.mem_singleton] at hv
      subst hv
      exact ⟨⟨by show _ ≤ (k : Int) + 1; omega, by show (k : Int) + 1 ≤ _; omega⟩, ok_ofL _ (fun x hx => h x (List.mem_of_mem_take hx))⟩
theorem cutI_head (a : Option Addr) (c n k : Nat) (hk : k ≤ n) (hn : n ≤ c) (w : World) : Sem.run Try.prog (Instr.sliceAt 43 (.slice a n c) none (some (.int .i64 (k : Int))) none) w = .ok (.slice a k c) w := by
  have h0 : (0 : Int) ≤ (k : Int) := by omega
  have h1 : (k : Int) ≤ (c : Int) := by omega
  have hu := Try.underlying43
  go_simp
theorem iat_head {w : World} {a : Option Addr} {l : List Int} (h : IAt w a l) (k : Nat) : IAt w a (l.take k) := by
  intro hne
  obtain ⟨b, o, ha, hb, hL⟩ := h (fun e => hne (by rw [e]; exact List.take_nil))
  refine ⟨b, o, ha, hb, fun i hi => ?_⟩
  have hi' : i < l.length := by rw [List.length_take] at hi; omega
  rw [hL i hi', List.getElem_take]
set_option maxRecDepth 100000 in
set_option maxHeartbeats 1000000 in
theorem folds_big (O : Own10) (a1 : Option Addr) (c1 : Nat) (l : List Int) (w : World) (hb : 100 < l.length) :
    Calls Try.prog 7 #[.slice a1 l.length c1] w fun e w' => e = .returned (.bool true) ∧ Below w.heap.size w w' := by
  have HAl := Lib.hid (alive_any O w)
  have u1 : decide ((100 : Int) < (l.length : Int)) = true := decide_eq_true (by omega)
  have u1' : (100 : Int) < (l.length : Int) := by omega
  go_enter Try.func7, Try.ntmps7
  go_wp2_with fail
  refine (HAl.out).mono ?_
  rintro e w1 ⟨rfl, n1⟩
  go_wp2_with fail
  go_ret
  exact ⟨rfl, n1⟩
set_option maxRecDepth 100000 in
set_option maxHeartbeats 4000000 in
theorem folds_ok (O : Own10) (a1 : Option Addr) (c1 : Nat) (l : List Int) (w : World) (h1 : IAt w a1 l) (hc : l.length ≤ c1) (ho : ∀ x ∈ l, ok64 x) (hb : l.length ≤ 100) :
    Calls Try.prog 7 #[.slice a1 l.length c1] w fun e w' => e = .returned (.bool true) ∧ Below w.heap.size w w' := by
  have HAl := Lib.hid (alive_any O w)
  have HA := Lib.hid (fun W (n : Below w.heap.size w W) => h1.on n)
  have K1 : Hid (∀ k (hk : k < l.length) u W, VRow W u (folded l k) → Calls Try.prog 21 #[u, .int .i64 ((k : Int) + 1), .int .i64 l[k]] W fun e w' => (∃ v', e = .returned (.tuple #[v', .int .i64 0]) ∧ VRow w' v' (folded l (k + 1))) ∧ Below W.heap.size W w') := fun k hk u W g => by
    have := O.fold u (folded l k) ((k : Int) + 1) l[k] W g (by rw [folded_len]; omega) (folded_ok ho k (by omega)) (ho _ (List.getElem_mem hk))
    rw [folded_fold hk (by omega)] at this
    exact this
  have K2 : Hid (∀ k, k ≤ l.length → ∀ u W, VRow W u (folded l k) → Calls Try.prog 13 #[u] W fun e w' => e = .returned (.int .i64 (k : Int)) ∧ Below W.heap.size W w') := fun k hk u W g => by
    have := O.last u (folded l k) W g (by rw [folded_len]; omega)
    rw [(folded_last l k hk).2] at this
    exact this
  have K3 : Hid (∀ i, i ≤ l.length → ∀ u W, VRow W u (folded l l.length) → Calls Try.prog 11 #[u, .int .i64 (i : Int)] W fun e w' => e = .returned (celV (ofL (l.take i))) ∧ Below W.heap.size W w') := fun i hi u W g => by
    have := O.at' u (folded l l.length) (i : Int) W g (by rw [folded_len]; omega)
    rw [folded_at l l.length i hi] at this
    exact this
  have K4 : Hid (∀ i, i ≤ l.length → ∀ W, Below w.heap.size w W → Calls Try.prog 23 #[.slice a1 i c1] W fun e w' => e = .returned (celV (ofL (l.take i))) ∧ Below W.heap.size W w') := fun i hi W n => by
    have := refOfs_any a1 c1 (l.take i) W (iat_head (h1.on n) i) (fun x hx => ho x (List.mem_of_mem_take hx)) (by rw [List.length_take]; omega)
    have e : (l.take i).length = i := by rw [List.length_take]; omega
    rw [e] at this
    exact this
  clear h1 ho
  have u1 : decide ((100 : Int) < (l.length : Int)) = false := decide_eq_false (by omega)
  have u1' : ¬ (100 : Int) < (l.length : Int) := by omega
  go_enter Try.func7, Try.ntmps7
  go_wp2_with fail
  refine (HAl.out).mono ?_
  rintro e w1 ⟨rfl, n1⟩
  clear HAl
  go_wp2_with fail
  go_loopw [3, 4] (fun v i wr => ∃ (k : Nat) (a : Option Addr) (c : Nat), k ≤ l.length ∧ i = .int .i64 k ∧ v = .slice a (folded l k).length c ∧ Hid (VRow wr (.slice a (folded l k).length c) (folded l k)) ∧ Hid (Below w.heap.size w wr)) (fun _ i _ => l.length - (intOf i).toNat)
  case atStart => exact ⟨0, none, 0, Nat.zero_le _, rfl, rfl, GRow.nil _, n1⟩
  case round =>
    obtain ⟨k, a, c, hk, rfl, rfl, HR, HD⟩ := hrel
    by_cases hlt : k < l.length
    · obtain ⟨b, o, rfl, hb', hL⟩ := (HA.out _ HD.out) (ne_of_lt hlt)
      have e1 := hL k hlt
      have i1 : (k : Int) < (l.length : Int) := by omega
      have i2 : (0 : Int) ≤ (k : Int) := by omega
      have i3 : IntKind.i64.wrap ((k : Int) + 1) = (k : Int) + 1 := by rw [IntKind.wrap_i64]; omega
      have KK := Lib.hid (K1.out k hlt _ _ HR.out)
      have KL := K2.out (k + 1) (by omega)
      have hcast : (((k + 1 : Nat) : Int)) = (k : Int) + 1 := by omega
      rw [hcast] at KL
      have KL := Lib.hid KL
      have hz := (HD.out).size
      have q1 : (((k : Int) + 1) == ((k : Int) + 1)) = true := by simp
      generalize l[k] = x at *
      clear hL K1 K2 K3 K4 HR hcast
      go_wp2_with fail
      refine (KK.out).mono ?_
      rintro e w3 ⟨⟨_, rfl, r3⟩, n3⟩
      have d3 := (HD.out).trans (n3.mono hz)
      have R3 := Lib.hid (fun W (n : Below w3.heap.size w3 W) => r3.on n)
      obtain ⟨a3, c3, rfl, _, _⟩ := r3
      clear KK n3
      go_wp2_with fail
      refine (KL.out _ _ (R3.out _ (Below.refl _ _))).mono ?_
      rintro e w4 ⟨rfl, n4⟩
      have R4 := Lib.hid (R3.out _ n4)
      have d4 := Lib.hid (d3.trans (n4.mono d3.size))
      clear KL R3 n4 d3
      go_wp2_with fail
      exact ⟨⟨k + 1, a3, c3, by omega, by go_num, rfl, R4, d4⟩, by simp [intOf]; omega⟩
    · have i1 : ¬ (k : Int) < (l.length : Int) := by omega
      have hkl : k = l.length := by omega
      subst hkl
      obtain ⟨wo, hwo⟩ : ∃ wo, wo = wr := ⟨_, rfl⟩
      subst hwo
      have hfl := Lib.hid (folded_len l l.length)
      have RR := Lib.hid (fun W (n : Below wo.heap.size wo W) => HR.out.on n)
      clear K1 K2 HR
      go_wp2_with fail
      go_loopw [7] (fun i wx => ∃ (k : Nat), k ≤ l.length + 1 ∧ i = .int .i64 k ∧ Hid (Below wo.heap.size wo wx)) (fun i _ => l.length + 1 - (intOf i).toNat)
      case atStart => exact ⟨0, Nat.zero_le _, rfl, Below.refl _ _⟩
      case round =>
        obtain ⟨k, hk, rfl, HX⟩ := hrel
        by_cases hle : k ≤ l.length
        · have i1 : (k : Int) ≤ (l.length : Int) := by omega
          have i1d : decide ((k : Int) ≤ (l.length : Int)) = true := decide_eq_true i1
          have i2 : (0 : Int) ≤ (k : Int) := by omega
          have hs1 := cutI_head a1 c1 l.length k hle hc
          have KA := K3.out k hle (.slice a (folded l l.length).length c)
          have KB := K4.out k hle
          generalize ofL (l.take k) = C at *
          obtain ⟨y1, y2, y3, y4, y5⟩ := C
          unfold celV at KA KB
          simp only at KA KB
          have KA := Lib.hid KA
          have KB := Lib.hid KB
          have q3 : (y1 == y1) = true := by simp
          have q4 : (y2 == y2) = true := by simp
          have q5 : (y3 == y3) = true := by simp
          have q6 : (y4 == y4) = true := by simp
          have q7 : (y5 == y5) = true := by simp
          have hz := (HX.out).size
          have hzw := (HD.out).size
          have hS : Below wo.heap.size wo wr.drew := HX.out.drew
          have hzd : wo.heap.size ≤ wr.drew.heap.size := hz
          clear K3 K4
          go_wp2_with fail
          go_region_held3 (fun w' => Below wo.heap.size wo w') (first | exact hS | exact hS3 | exact hS4 | exact hS5 | exact hS6) (first
            | (go_at_call 11; first
              | (refine (KA.out _ (RR.out _ hS4)).mono ?_; rintro e w5 ⟨rfl, n5⟩; have hS5 := hS4.trans (n5.mono hS4.size))
              | (refine (KA.out _ (RR.out _ hS)).mono ?_; rintro e w3 ⟨rfl, n3⟩; have hS3 := hS.trans (n3.mono hzd))
              | fail)
            | (go_at_call 23; first
              | (refine (KB.out _ ((HD.out).trans (hS3.mono hzw))).mono ?_; rintro e w6 ⟨rfl, n6⟩; have hS6 := hS3.trans (n6.mono hS3.size))
              | (refine (KB.out _ ((HD.out).trans (hS.mono hzw))).mono ?_; rintro e w4 ⟨rfl, n4⟩; have hS4 := hS.trans (n4.mono hzd))
              | fail)
            | fail)
          all_goals (go_wp2_with fail)
          all_goals exact ⟨⟨k + 1, by omega, by go_num, by first | exact hS6 | exact hS5⟩, by simp [intOf]; omega⟩
        · have i1 : ¬ (k : Int) ≤ (l.length : Int) := by omega
          have i1d : decide ((k : Int) ≤ (l.length : Int)) = false := decide_eq_false i1
          have q1 : ((l.length : Int) == (l.length : Int)) = true := by simp
          have D := Lib.hid ((HD.out).trans ((HX.out).mono (HD.out).size))
          have hfl := hfl.out
          clear K3 K4 RR HX HA
          go_wp2_with fail
          go_ret
          exact ⟨rfl, D.out⟩
/-- The law ChainFolds. -/
theorem folds_walk (O : Own10) (a1 : Option Addr) (c1 : Nat) (l : List Int) (w : World) (h1 : IAt w a1 l) (hc : l.length ≤ c1) (ho : ∀ x ∈ l, ok64 x) :
    Calls Try.prog 7 #[.slice a1 l.length c1] w fun e w' => e = .returned (.bool true) ∧ Below w.heap.size w w' := by
  rcases Nat.lt_or_ge 100 l.length with hb | hb
  · exact folds_big O a1 c1 l w hb
  · exact folds_ok O a1 c1 l w h1 hc ho hb
end Go.Proofs.Ytecfjifipbabiaa.Ch
