/- Walks: the document's Read. -/
import Derived.Test.YtmmpcaboedjjdaaDoorM5
namespace Go.Proofs.YtmmpcaboedjjdaaDoor
open Go Go.RowKit

theorem ret2 {a b c d : Int} (h : (a, b) = (c, d)) : Ending.returned (.tuple #[.int .i64 a, .int .i64 b]) = .returned (.tuple #[.int .i64 c, .int .i64 d]) := by
  cases h; rfl
theorem ret2p {a b : Int} {R : Int × Int} (h : R = (a, b)) : Ending.returned (.tuple #[.int .i64 a, .int .i64 b]) = .returned (.tuple #[.int .i64 R.1, .int .i64 R.2]) := by
  rw [h]
theorem tdq (x : Int) (h0 : 0 ≤ x) (h1 : x ≤ 9) : (-9223372036854775808 + x).tdiv 10 = -((9223372036854775808 - x) / 10) := by
  rw [show (-9223372036854775808 + x : Int) = -(9223372036854775808 - x) from by omega, Int.neg_tdiv, Int.tdiv_eq_ediv_of_nonneg (by omega)]
theorem wr64 (x : Int) (h0 : -9223372036854775808 ≤ x) (h1 : x ≤ 9223372036854775807) : wrap64 x = x := by
  unfold wrap64; omega
theorem headNe (D : ByteArray) (hp : 0 < D.size) (h : (((D[0]).toNat : Int) == 48) = false) : ∀ r, D.data.toList ≠ 48 :: r := by
  intro r e
  have hh := head_list D hp
  rw [hh] at e
  injection e with e1 _
  rw [e1] at h
  exact absurd h (by decide)
theorem headEq (D : ByteArray) (hp : 0 < D.size) (h : (((D[0]).toNat : Int) == 48) = true) : D.data.toList = 48 :: D.data.toList.tail := by
  have hh := head_list D hp
  have h48 : D[0] = 48 := by apply UInt8.toNat_inj.1; simp at h; have h4 : (48 : UInt8).toNat = 48 := rfl; omega
  rw [h48] at hh
  exact hh
theorem ne_nil (D : ByteArray) (hp : 0 < D.size) : D.data.toList ≠ [] := by
  intro h
  have := size_list D
  rw [h] at this
  simp only [List.length_nil] at this
  omega
theorem ne_empty (D : ByteArray) (hp : 0 < D.size) : ¬ D = ByteArray.empty := by
  rintro rfl
  exact absurd hp (by decide)

set_option maxHeartbeats 1000000 in
theorem refRead_minus (s : ByteArray) (w : World) (hs : s.size ≤ 281474976710656) (h1 : 1 < s.size) (h45 : (((s[0]'(by omega)).toNat : Int) == 45) = true) :
    Calls Tryd.prog 17 #[.string s] w fun e w' => e = .returned (.tuple #[.int .i64 (Sat.read s.data.toList).1, .int .i64 (Sat.read s.data.toList).2]) ∧ w' = w := by
  obtain ⟨D, hD⟩ : ∃ D, s.extract 1 s.size = D := ⟨_, rfl⟩
  have hl : s.data.toList = 45 :: D.data.toList := by
    have hh := head_list s (by omega)
    have e45 : s[0] = 45 := by apply UInt8.toNat_inj.1; simp at h45; have h4 : (45 : UInt8).toNat = 45 := rfl; omega
    have hn : s.data.toList.length = s.size := (size_list s).symm
    rw [← hD, Lib.extract_data, List.take_of_length_le (by simp), List.drop_one, ← e45]
    exact hh
  have hp : 0 < D.size := by have a := size_list s; have b := size_list D; rw [hl] at a; simp at a; omega
  have hls : D.size < s.size := by have a := size_list s; have b := size_list D; rw [hl] at a; simp at a; omega
  have hR := reads_minus D.data.toList (ne_nil D hp)
  rw [← hl] at hR
  have hlen : 1 < s.data.toList.length := by rw [← size_list]; exact h1
  have HN0 := Lib.hid hR.nought
  have HB := Lib.hid hR.bad
  have HBig := Lib.hid hR.big
  have HNeg := Lib.hid (hR.neg rfl)
  have HL := Lib.hid hlen
  clear hR hl hlen
  generalize Sat.read s.data.toList = R at *
  have hz : ((D.size : Int) == 0) = false := by rw [beq_eq_false_iff_ne]; omega
  have hne := ne_empty D hp
  by_cases h48 : (((D[0]).toNat : Int) == 48) = true
  · have HF : Hid (R = (0, 2)) := HN0.out _ (headEq D hp h48) HL.out
    go_enter Tryd.func17, Tryd.ntmps17
    go_wp2_with fail
    go_ret2
    exact ⟨ret2p HF.out, rfl⟩
  have h48' : (((D[0]).toNat : Int) == 48) = false := by simpa using h48
  clear h48
  have HC : Hid (∀ r, D.data.toList = 48 :: r → ¬ 1 < s.data.toList.length) := fun r e => absurd e (headNe D hp h48' r)
  have HNN := Lib.hid (ne_nil D hp)
  have HG : Hid (Sat.digs D.data.toList = true → 9223372036854775808 < Sat.valA 0 D.data.toList → R = (0, 3)) := fun a b => HBig.out a HNN.out HC.out b
  go_enter Tryd.func17, Tryd.ntmps17
  go_wp2_with fail
  -- the digits
  go_loop [5] (fun i => ∃ k : Nat, k ≤ D.size ∧ i = .int .i64 k ∧ Hid (Sat.digs (D.data.toList.take k) = true)) (fun i => D.size - (intOf i).toNat)
  case atStart => exact ⟨0, Nat.zero_le _, rfl, rfl⟩
  case round =>
    obtain ⟨k, hk, rfl, HDk⟩ := hrel
    by_cases hlt : k < D.size
    · have hts := take_snoc D k hlt
      have HS : Hid (Sat.digs (D.data.toList.take (k + 1)) = (Sat.digs (D.data.toList.take k) && (decide (48 ≤ (D[k]).toNat) && decide ((D[k]).toNat ≤ 57)))) := by rw [hts]; exact digs_snoc _ _
      clear hts
      have HN : Hid ((((D[k]).toNat : Int) < 48 ∨ 57 < ((D[k]).toNat : Int)) → R = (0, 2)) := by
        intro h
        have h1 := HS.out
        rw [HDk.out] at h1
        have h2 : Sat.digs (D.data.toList.take (k + 1)) = false := by rw [h1]; simp; omega
        exact HB.out (digs_take h2)
      go_wp2_with fail
      case roundEnd =>
        have h2 : 48 ≤ ((D[k]).toNat : Int) ∧ ((D[k]).toNat : Int) ≤ 57 := by assumption
        refine ⟨⟨k + 1, by omega, by go_num, ?_⟩, by simp [intOf]; omega⟩
        show _ = _
        rw [HS.out, HDk.out]
        simp
        omega
      all_goals
        go_ret2
        exact ⟨ret2p (HN.out (by omega)), rfl⟩
    · have HA : Hid (Sat.digs D.data.toList = true) := by
        have h1 := HDk.out
        rw [List.take_of_length_le (by rw [← size_list]; omega)] at h1
        exact h1
      clear HDk
      go_wp2_with fail
      go_loop [6, 7] (fun n i => ∃ (k : Nat) (q : Int), k ≤ D.size ∧ i = .int .i64 k ∧ n = .int .i64 q ∧ q ≤ 0 ∧ -9223372036854775808 ≤ q ∧ Hid (q = -(Sat.valA 0 (D.data.toList.take k) : Int))) (fun _ i => D.size - (intOf i).toNat)
      case atStart => exact ⟨0, 0, Nat.zero_le _, rfl, rfl, by decide, by decide, by show _ = _; rw [List.take_zero, Sat.valA_nil]; rfl⟩
      case round =>
        obtain ⟨k, q, hk, rfl, rfl, hq0, hq1, HQ⟩ := hrel
        by_cases hlt : k < D.size
        · have hts := take_snoc D k hlt
          have HV : Hid (Sat.valA 0 (D.data.toList.take (k + 1)) = Sat.valA 0 (D.data.toList.take k) * 10 + ((D[k]).toNat - 48)) := by show _ = _; rw [hts]; exact valA_snoc _ _
          have hdg : 48 ≤ ((D[k]).toNat : Int) ∧ ((D[k]).toNat : Int) ≤ 57 := by
            have h1 := HA.out
            have hm : D[k] ∈ D.data.toList := by
              have e : D.data.toList[k]'(by rw [← size_list]; exact hlt) = D[k] := rfl
              rw [← e]; exact List.getElem_mem _
            have h2 := List.all_eq_true.1 h1 _ hm
            rw [Sat.dgt_iff] at h2
            omega
          clear hts
          have hq2 : -9223372036854775808 + (((D[k]).toNat : Int) - 48) ≤ 0 := by omega
          have HB2 : Hid (q < (-9223372036854775808 + (((D[k]).toNat : Int) - 48)).tdiv 10 → R = (0, 3)) := by
            intro h
            rw [tdq _ (by omega) (by omega), HQ.out] at h
            have h2 := HV.out
            have h3 := valA_take_le D.data.toList (k + 1)
            exact HG.out HA.out (by omega)
          have HB3 : Hid (¬ q < (-9223372036854775808 + (((D[k]).toNat : Int) - 48)).tdiv 10 → -9223372036854775808 ≤ 10 * q - (((D[k]).toNat : Int) - 48) ∧ 10 * q - (((D[k]).toNat : Int) - 48) ≤ 0 ∧ 10 * q - (((D[k]).toNat : Int) - 48) = -(Sat.valA 0 (D.data.toList.take (k + 1)) : Int)) := by
            intro h
            rw [tdq _ (by omega) (by omega)] at h
            have h2 := HV.out
            have h3 := HQ.out
            omega
          go_wp2_with fail
          case roundEnd =>
            obtain ⟨b0, b1, b2⟩ := HB3.out (by omega)
            have e : wrap64 (wrap64 (10 * q) - (((D[k]).toNat : Int) - 48)) = 10 * q - (((D[k]).toNat : Int) - 48) := by rw [wr64 (10 * q) (by omega) (by omega), wr64 _ (by omega) (by omega)]
            rw [e]
            exact ⟨⟨k + 1, _, by omega, by go_num, rfl, b1, b0, b2⟩, by simp [intOf]; omega⟩
          all_goals
            go_ret2
            exact ⟨ret2p (HB2.out (by assumption)), rfl⟩
        · have HV : Hid (q = -(Sat.valA 0 D.data.toList : Int)) := by
            have h1 := HQ.out
            rw [List.take_of_length_le (by rw [← size_list]; omega)] at h1
            exact h1
          go_wp2_with fail
          go_ret2
          refine ⟨ret2p ?_, rfl⟩
          have h2 := HV.out
          rw [HNeg.out HA.out HNN.out HC.out (by omega), h2]

set_option maxHeartbeats 1000000 in
theorem refRead_plain (D : ByteArray) (w : World) (hs : D.size ≤ 281474976710656) (h45 : ∀ h : 1 < D.size, (((D[0]'(by omega)).toNat : Int) == 45) = false) :
    Calls Tryd.prog 17 #[.string D] w fun e w' => e = .returned (.tuple #[.int .i64 (Sat.read D.data.toList).1, .int .i64 (Sat.read D.data.toList).2]) ∧ w' = w := by
  have hR := reads_plain D.data.toList (by
    rintro ⟨hl, r, e⟩
    rw [← size_list] at hl
    have h := h45 hl
    have hh := head_list D (by omega)
    rw [hh] at e
    injection e with e1 _
    rw [e1] at h
    exact absurd h (by decide))
  have HN0 := Lib.hid hR.nought
  have HB := Lib.hid hR.bad
  have HBig := Lib.hid hR.big
  have HPos := Lib.hid (hR.pos rfl)
  have HTop := Lib.hid (hR.top rfl)
  have HE : Hid (D.size = 0 → Sat.read D.data.toList = (0, 2)) := by
    intro h
    rw [List.length_eq_zero_iff.1 (by rw [← size_list]; exact h : D.data.toList.length = 0)]
    decide
  clear hR
  generalize Sat.read D.data.toList = R at *
  by_cases hp : 0 < D.size
  · have hz : ((D.size : Int) == 0) = false := by rw [beq_eq_false_iff_ne]; omega
    have hne := ne_empty D hp
    by_cases h1 : 1 < D.size
    · have h45' := h45 h1
      clear h45
      by_cases h48 : (((D[0]).toNat : Int) == 48) = true
      · have HF : Hid (R = (0, 2)) := HN0.out _ (headEq D hp h48) (by rw [← size_list]; exact h1)
        go_enter Tryd.func17, Tryd.ntmps17
        go_wp2_with fail
        go_ret2
        exact ⟨ret2p HF.out, rfl⟩
      · have h48' : (((D[0]).toNat : Int) == 48) = false := by simpa using h48
        clear h48
        have HC : Hid (∀ r, D.data.toList = 48 :: r → ¬ 1 < D.data.toList.length) := fun r e => absurd e (headNe D hp h48' r)
        have HNN := Lib.hid (ne_nil D hp)
        have HG : Hid (Sat.digs D.data.toList = true → 9223372036854775808 < Sat.valA 0 D.data.toList → R = (0, 3)) := fun a b => HBig.out a HNN.out HC.out b
        go_enter Tryd.func17, Tryd.ntmps17
        go_wp2_with fail
        -- the digits
        go_loop [5] (fun i => ∃ k : Nat, k ≤ D.size ∧ i = .int .i64 k ∧ Hid (Sat.digs (D.data.toList.take k) = true)) (fun i => D.size - (intOf i).toNat)
        case atStart => exact ⟨0, Nat.zero_le _, rfl, rfl⟩
        case round =>
          obtain ⟨k, hk, rfl, HDk⟩ := hrel
          by_cases hlt : k < D.size
          · have hts := take_snoc D k hlt
            have HS : Hid (Sat.digs (D.data.toList.take (k + 1)) = (Sat.digs (D.data.toList.take k) && (decide (48 ≤ (D[k]).toNat) && decide ((D[k]).toNat ≤ 57)))) := by rw [hts]; exact digs_snoc _ _
            clear hts
            have HN : Hid ((((D[k]).toNat : Int) < 48 ∨ 57 < ((D[k]).toNat : Int)) → R = (0, 2)) := by
              intro h
              have h1 := HS.out
              rw [HDk.out] at h1
              have h2 : Sat.digs (D.data.toList.take (k + 1)) = false := by rw [h1]; simp; omega
              exact HB.out (digs_take h2)
            go_wp2_with fail
            case roundEnd =>
              have h2 : 48 ≤ ((D[k]).toNat : Int) ∧ ((D[k]).toNat : Int) ≤ 57 := by assumption
              refine ⟨⟨k + 1, by omega, by go_num, ?_⟩, by simp [intOf]; omega⟩
              show _ = _
              rw [HS.out, HDk.out]
              simp
              omega
            all_goals
              go_ret2
              exact ⟨ret2p (HN.out (by omega)), rfl⟩
          · have HA : Hid (Sat.digs D.data.toList = true) := by
              have h1 := HDk.out
              rw [List.take_of_length_le (by rw [← size_list]; omega)] at h1
              exact h1
            clear HDk
            go_wp2_with fail
            go_loop [6, 7] (fun n i => ∃ (k : Nat) (q : Int), k ≤ D.size ∧ i = .int .i64 k ∧ n = .int .i64 q ∧ q ≤ 0 ∧ -9223372036854775808 ≤ q ∧ Hid (q = -(Sat.valA 0 (D.data.toList.take k) : Int))) (fun _ i => D.size - (intOf i).toNat)
            case atStart => exact ⟨0, 0, Nat.zero_le _, rfl, rfl, by decide, by decide, by show _ = _; rw [List.take_zero, Sat.valA_nil]; rfl⟩
            case round =>
              obtain ⟨k, q, hk, rfl, rfl, hq0, hq1, HQ⟩ := hrel
              by_cases hlt : k < D.size
              · have hts := take_snoc D k hlt
                have HV : Hid (Sat.valA 0 (D.data.toList.take (k + 1)) = Sat.valA 0 (D.data.toList.take k) * 10 + ((D[k]).toNat - 48)) := by show _ = _; rw [hts]; exact valA_snoc _ _
                have hdg : 48 ≤ ((D[k]).toNat : Int) ∧ ((D[k]).toNat : Int) ≤ 57 := by
                  have h1 := HA.out
                  have hm : D[k] ∈ D.data.toList := by
                    have e : D.data.toList[k]'(by rw [← size_list]; exact hlt) = D[k] := rfl
                    rw [← e]; exact List.getElem_mem _
                  have h2 := List.all_eq_true.1 h1 _ hm
                  rw [Sat.dgt_iff] at h2
                  omega
                clear hts
                have hq2 : -9223372036854775808 + (((D[k]).toNat : Int) - 48) ≤ 0 := by omega
                have HB2 : Hid (q < (-9223372036854775808 + (((D[k]).toNat : Int) - 48)).tdiv 10 → R = (0, 3)) := by
                  intro h
                  rw [tdq _ (by omega) (by omega), HQ.out] at h
                  have h2 := HV.out
                  have h3 := valA_take_le D.data.toList (k + 1)
                  exact HG.out HA.out (by omega)
                have HB3 : Hid (¬ q < (-9223372036854775808 + (((D[k]).toNat : Int) - 48)).tdiv 10 → -9223372036854775808 ≤ 10 * q - (((D[k]).toNat : Int) - 48) ∧ 10 * q - (((D[k]).toNat : Int) - 48) ≤ 0 ∧ 10 * q - (((D[k]).toNat : Int) - 48) = -(Sat.valA 0 (D.data.toList.take (k + 1)) : Int)) := by
                  intro h
                  rw [tdq _ (by omega) (by omega)] at h
                  have h2 := HV.out
                  have h3 := HQ.out
                  omega
                go_wp2_with fail
                case roundEnd =>
                  obtain ⟨b0, b1, b2⟩ := HB3.out (by omega)
                  have e : wrap64 (wrap64 (10 * q) - (((D[k]).toNat : Int) - 48)) = 10 * q - (((D[k]).toNat : Int) - 48) := by rw [wr64 (10 * q) (by omega) (by omega), wr64 _ (by omega) (by omega)]
                  rw [e]
                  exact ⟨⟨k + 1, _, by omega, by go_num, rfl, b1, b0, b2⟩, by simp [intOf]; omega⟩
                all_goals
                  go_ret2
                  exact ⟨ret2p (HB2.out (by assumption)), rfl⟩
              · have HV : Hid (q = -(Sat.valA 0 D.data.toList : Int)) := by
                  have h1 := HQ.out
                  rw [List.take_of_length_le (by rw [← size_list]; omega)] at h1
                  exact h1
                have HX : Hid ((q == -9223372036854775808) = true → R = (0, 3)) := by
                  intro h
                  have h2 := HV.out
                  exact HTop.out HA.out HNN.out HC.out (by simp at h; omega)
                have HY : Hid ((q == -9223372036854775808) = false → R = (-q, 0)) := by
                  intro h
                  have h2 := HV.out
                  have h3 : q ≠ -9223372036854775808 := by simpa using h
                  rw [HPos.out HA.out HNN.out HC.out (by omega), h2, Int.neg_neg]
                by_cases hm : (q == -9223372036854775808) = true
                · go_wp2_with fail
                  go_ret2
                  exact ⟨ret2p (HX.out hm), rfl⟩
                · have hm' : (q == -9223372036854775808) = false := by simpa using hm
                  have hm2 : -9223372036854775807 ≤ q := by have h3 : q ≠ -9223372036854775808 := by simpa using hm
                                                            omega
                  clear hm
                  go_wp2_with fail
                  go_ret2
                  exact ⟨ret2p (HY.out hm'), rfl⟩
    · clear h45
      have HC : Hid (∀ r, D.data.toList = 48 :: r → ¬ 1 < D.data.toList.length) := fun r e => by rw [← size_list]; exact h1
      have HNN := Lib.hid (ne_nil D hp)
      have HG : Hid (Sat.digs D.data.toList = true → 9223372036854775808 < Sat.valA 0 D.data.toList → R = (0, 3)) := fun a b => HBig.out a HNN.out HC.out b
      have h1' : D.size = 1 := by omega
      have h1i : (D.size : Int) ≤ 1 := by omega
      clear h1' 
      go_enter Tryd.func17, Tryd.ntmps17
      by_cases h48 : (((D[0]).toNat : Int) == 48) = true
      · go_wp2_with fail
        -- the digits
        go_loop [5] (fun i => ∃ k : Nat, k ≤ D.size ∧ i = .int .i64 k ∧ Hid (Sat.digs (D.data.toList.take k) = true)) (fun i => D.size - (intOf i).toNat)
        case atStart => exact ⟨0, Nat.zero_le _, rfl, rfl⟩
        case round =>
          obtain ⟨k, hk, rfl, HDk⟩ := hrel
          by_cases hlt : k < D.size
          · have hts := take_snoc D k hlt
            have HS : Hid (Sat.digs (D.data.toList.take (k + 1)) = (Sat.digs (D.data.toList.take k) && (decide (48 ≤ (D[k]).toNat) && decide ((D[k]).toNat ≤ 57)))) := by rw [hts]; exact digs_snoc _ _
            clear hts
            have HN : Hid ((((D[k]).toNat : Int) < 48 ∨ 57 < ((D[k]).toNat : Int)) → R = (0, 2)) := by
              intro h
              have h1 := HS.out
              rw [HDk.out] at h1
              have h2 : Sat.digs (D.data.toList.take (k + 1)) = false := by rw [h1]; simp; omega
              exact HB.out (digs_take h2)
            go_wp2_with fail
            case roundEnd =>
              have h2 : 48 ≤ ((D[k]).toNat : Int) ∧ ((D[k]).toNat : Int) ≤ 57 := by assumption
              refine ⟨⟨k + 1, by omega, by go_num, ?_⟩, by simp [intOf]; omega⟩
              show _ = _
              rw [HS.out, HDk.out]
              simp
              omega
            all_goals
              go_ret2
              exact ⟨ret2p (HN.out (by omega)), rfl⟩
          · have HA : Hid (Sat.digs D.data.toList = true) := by
              have h1 := HDk.out
              rw [List.take_of_length_le (by rw [← size_list]; omega)] at h1
              exact h1
            clear HDk
            go_wp2_with fail
            go_loop [6, 7] (fun n i => ∃ (k : Nat) (q : Int), k ≤ D.size ∧ i = .int .i64 k ∧ n = .int .i64 q ∧ q ≤ 0 ∧ -9223372036854775808 ≤ q ∧ Hid (q = -(Sat.valA 0 (D.data.toList.take k) : Int))) (fun _ i => D.size - (intOf i).toNat)
            case atStart => exact ⟨0, 0, Nat.zero_le _, rfl, rfl, by decide, by decide, by show _ = _; rw [List.take_zero, Sat.valA_nil]; rfl⟩
            case round =>
              obtain ⟨k, q, hk, rfl, rfl, hq0, hq1, HQ⟩ := hrel
              by_cases hlt : k < D.size
              · have hts := take_snoc D k hlt
                have HV : Hid (Sat.valA 0 (D.data.toList.take (k + 1)) = Sat.valA 0 (D.data.toList.take k) * 10 + ((D[k]).toNat - 48)) := by show _ = _; rw [hts]; exact valA_snoc _ _
                have hdg : 48 ≤ ((D[k]).toNat : Int) ∧ ((D[k]).toNat : Int) ≤ 57 := by
                  have h1 := HA.out
                  have hm : D[k] ∈ D.data.toList := by
                    have e : D.data.toList[k]'(by rw [← size_list]; exact hlt) = D[k] := rfl
                    rw [← e]; exact List.getElem_mem _
                  have h2 := List.all_eq_true.1 h1 _ hm
                  rw [Sat.dgt_iff] at h2
                  omega
                clear hts
                have hq2 : -9223372036854775808 + (((D[k]).toNat : Int) - 48) ≤ 0 := by omega
                have HB2 : Hid (q < (-9223372036854775808 + (((D[k]).toNat : Int) - 48)).tdiv 10 → R = (0, 3)) := by
                  intro h
                  rw [tdq _ (by omega) (by omega), HQ.out] at h
                  have h2 := HV.out
                  have h3 := valA_take_le D.data.toList (k + 1)
                  exact HG.out HA.out (by omega)
                have HB3 : Hid (¬ q < (-9223372036854775808 + (((D[k]).toNat : Int) - 48)).tdiv 10 → -9223372036854775808 ≤ 10 * q - (((D[k]).toNat : Int) - 48) ∧ 10 * q - (((D[k]).toNat : Int) - 48) ≤ 0 ∧ 10 * q - (((D[k]).toNat : Int) - 48) = -(Sat.valA 0 (D.data.toList.take (k + 1)) : Int)) := by
                  intro h
                  rw [tdq _ (by omega) (by omega)] at h
                  have h2 := HV.out
                  have h3 := HQ.out
                  omega
                go_wp2_with fail
                case roundEnd =>
                  obtain ⟨b0, b1, b2⟩ := HB3.out (by omega)
                  have e : wrap64 (wrap64 (10 * q) - (((D[k]).toNat : Int) - 48)) = 10 * q - (((D[k]).toNat : Int) - 48) := by rw [wr64 (10 * q) (by omega) (by omega), wr64 _ (by omega) (by omega)]
                  rw [e]
                  exact ⟨⟨k + 1, _, by omega, by go_num, rfl, b1, b0, b2⟩, by simp [intOf]; omega⟩
                all_goals
                  go_ret2
                  exact ⟨ret2p (HB2.out (by assumption)), rfl⟩
              · have HV : Hid (q = -(Sat.valA 0 D.data.toList : Int)) := by
                  have h1 := HQ.out
                  rw [List.take_of_length_le (by rw [← size_list]; omega)] at h1
                  exact h1
                have HX : Hid ((q == -9223372036854775808) = true → R = (0, 3)) := by
                  intro h
                  have h2 := HV.out
                  exact HTop.out HA.out HNN.out HC.out (by simp at h; omega)
                have HY : Hid ((q == -9223372036854775808) = false → R = (-q, 0)) := by
                  intro h
                  have h2 := HV.out
                  have h3 : q ≠ -9223372036854775808 := by simpa using h
                  rw [HPos.out HA.out HNN.out HC.out (by omega), h2, Int.neg_neg]
                by_cases hm : (q == -9223372036854775808) = true
                · go_wp2_with fail
                  go_ret2
                  exact ⟨ret2p (HX.out hm), rfl⟩
                · have hm' : (q == -9223372036854775808) = false := by simpa using hm
                  have hm2 : -9223372036854775807 ≤ q := by have h3 : q ≠ -9223372036854775808 := by simpa using hm
                                                            omega
                  clear hm
                  go_wp2_with fail
                  go_ret2
                  exact ⟨ret2p (HY.out hm'), rfl⟩
      · have h48' : (((D[0]).toNat : Int) == 48) = false := by simpa using h48
        clear h48
        go_wp2_with fail
        -- the digits
        go_loop [5] (fun i => ∃ k : Nat, k ≤ D.size ∧ i = .int .i64 k ∧ Hid (Sat.digs (D.data.toList.take k) = true)) (fun i => D.size - (intOf i).toNat)
        case atStart => exact ⟨0, Nat.zero_le _, rfl, rfl⟩
        case round =>
          obtain ⟨k, hk, rfl, HDk⟩ := hrel
          by_cases hlt : k < D.size
          · have hts := take_snoc D k hlt
            have HS : Hid (Sat.digs (D.data.toList.take (k + 1)) = (Sat.digs (D.data.toList.take k) && (decide (48 ≤ (D[k]).toNat) && decide ((D[k]).toNat ≤ 57)))) := by rw [hts]; exact digs_snoc _ _
            clear hts
            have HN : Hid ((((D[k]).toNat : Int) < 48 ∨ 57 < ((D[k]).toNat : Int)) → R = (0, 2)) := by
              intro h
              have h1 := HS.out
              rw [HDk.out] at h1
              have h2 : Sat.digs (D.data.toList.take (k + 1)) = false := by rw [h1]; simp; omega
              exact HB.out (digs_take h2)
            go_wp2_with fail
            case roundEnd =>
              have h2 : 48 ≤ ((D[k]).toNat : Int) ∧ ((D[k]).toNat : Int) ≤ 57 := by assumption
              refine ⟨⟨k + 1, by omega, by go_num, ?_⟩, by simp [intOf]; omega⟩
              show _ = _
              rw [HS.out, HDk.out]
              simp
              omega
            all_goals
              go_ret2
              exact ⟨ret2p (HN.out (by omega)), rfl⟩
          · have HA : Hid (Sat.digs D.data.toList = true) := by
              have h1 := HDk.out
              rw [List.take_of_length_le (by rw [← size_list]; omega)] at h1
              exact h1
            clear HDk
            go_wp2_with fail
            go_loop [6, 7] (fun n i => ∃ (k : Nat) (q : Int), k ≤ D.size ∧ i = .int .i64 k ∧ n = .int .i64 q ∧ q ≤ 0 ∧ -9223372036854775808 ≤ q ∧ Hid (q = -(Sat.valA 0 (D.data.toList.take k) : Int))) (fun _ i => D.size - (intOf i).toNat)
            case atStart => exact ⟨0, 0, Nat.zero_le _, rfl, rfl, by decide, by decide, by show _ = _; rw [List.take_zero, Sat.valA_nil]; rfl⟩
            case round =>
              obtain ⟨k, q, hk, rfl, rfl, hq0, hq1, HQ⟩ := hrel
              by_cases hlt : k < D.size
              · have hts := take_snoc D k hlt
                have HV : Hid (Sat.valA 0 (D.data.toList.take (k + 1)) = Sat.valA 0 (D.data.toList.take k) * 10 + ((D[k]).toNat - 48)) := by show _ = _; rw [hts]; exact valA_snoc _ _
                have hdg : 48 ≤ ((D[k]).toNat : Int) ∧ ((D[k]).toNat : Int) ≤ 57 := by
                  have h1 := HA.out
                  have hm : D[k] ∈ D.data.toList := by
                    have e : D.data.toList[k]'(by rw [← size_list]; exact hlt) = D[k] := rfl
                    rw [← e]; exact List.getElem_mem _
                  have h2 := List.all_eq_true.1 h1 _ hm
                  rw [Sat.dgt_iff] at h2
                  omega
                clear hts
                have hq2 : -9223372036854775808 + (((D[k]).toNat : Int) - 48) ≤ 0 := by omega
                have HB2 : Hid (q < (-9223372036854775808 + (((D[k]).toNat : Int) - 48)).tdiv 10 → R = (0, 3)) := by
                  intro h
                  rw [tdq _ (by omega) (by omega), HQ.out] at h
                  have h2 := HV.out
                  have h3 := valA_take_le D.data.toList (k + 1)
                  exact HG.out HA.out (by omega)
                have HB3 : Hid (¬ q < (-9223372036854775808 + (((D[k]).toNat : Int) - 48)).tdiv 10 → -9223372036854775808 ≤ 10 * q - (((D[k]).toNat : Int) - 48) ∧ 10 * q - (((D[k]).toNat : Int) - 48) ≤ 0 ∧ 10 * q - (((D[k]).toNat : Int) - 48) = -(Sat.valA 0 (D.data.toList.take (k + 1)) : Int)) := by
                  intro h
                  rw [tdq _ (by omega) (by omega)] at h
                  have h2 := HV.out
                  have h3 := HQ.out
                  omega
                go_wp2_with fail
                case roundEnd =>
                  obtain ⟨b0, b1, b2⟩ := HB3.out (by omega)
                  have e : wrap64 (wrap64 (10 * q) - (((D[k]).toNat : Int) - 48)) = 10 * q - (((D[k]).toNat : Int) - 48) := by rw [wr64 (10 * q) (by omega) (by omega), wr64 _ (by omega) (by omega)]
                  rw [e]
                  exact ⟨⟨k + 1, _, by omega, by go_num, rfl, b1, b0, b2⟩, by simp [intOf]; omega⟩
                all_goals
                  go_ret2
                  exact ⟨ret2p (HB2.out (by assumption)), rfl⟩
              · have HV : Hid (q = -(Sat.valA 0 D.data.toList : Int)) := by
                  have h1 := HQ.out
                  rw [List.take_of_length_le (by rw [← size_list]; omega)] at h1
                  exact h1
                have HX : Hid ((q == -9223372036854775808) = true → R = (0, 3)) := by
                  intro h
                  have h2 := HV.out
                  exact HTop.out HA.out HNN.out HC.out (by simp at h; omega)
                have HY : Hid ((q == -9223372036854775808) = false → R = (-q, 0)) := by
                  intro h
                  have h2 := HV.out
                  have h3 : q ≠ -9223372036854775808 := by simpa using h
                  rw [HPos.out HA.out HNN.out HC.out (by omega), h2, Int.neg_neg]
                by_cases hm : (q == -9223372036854775808) = true
                · go_wp2_with fail
                  go_ret2
                  exact ⟨ret2p (HX.out hm), rfl⟩
                · have hm' : (q == -9223372036854775808) = false := by simpa using hm
                  have hm2 : -9223372036854775807 ≤ q := by have h3 : q ≠ -9223372036854775808 := by simpa using hm
                                                            omega
                  clear hm
                  go_wp2_with fail
                  go_ret2
                  exact ⟨ret2p (HY.out hm'), rfl⟩
  · have HF : Hid (R = (0, 2)) := HE.out (by omega)
    have hz : D.size = 0 := by omega
    clear HN0 HB HBig HPos HTop HE h45
    go_enter Tryd.func17, Tryd.ntmps17
    go_wp2_with fail
    go_ret2
    exact ⟨ret2p HF.out, rfl⟩
end Go.Proofs.YtmmpcaboedjjdaaDoor
