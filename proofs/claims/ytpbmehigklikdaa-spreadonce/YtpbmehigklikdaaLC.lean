/- Walk over Own12: the law SpreadOnce. -/
import Derived.Test.YtpbmehigklikdaaLB
namespace Go.Proofs.Ytpbmehigklikdaa.Sp
open Go Go.RowKit

def sumN (PS : List (List ByteArray)) (i : Nat) : Nat := ((PS.take i).map List.length).sum
theorem sumN_zero (PS : List (List ByteArray)) : sumN PS 0 = 0 := rfl
theorem sumN_next {PS : List (List ByteArray)} {i : Nat} (h : i < PS.length) : sumN PS (i + 1) = sumN PS i + (PS[i]).length := by
  unfold sumN
  have e : PS.take (i + 1) = PS.take i ++ [PS[i]] := by simp
  rw [e, List.map_append, List.sum_append]
  simp only [List.map_cons, List.map_nil, List.sum_cons, List.sum_nil, Nat.add_zero]
theorem sumN_le {PS : List (List ByteArray)} {i : Nat} {m : Nat} (hm : (PS.map List.length).sum = m) : sumN PS i ≤ m := by
  have e : PS = PS.take i ++ PS.drop i := (List.take_append_drop i PS).symm
  unfold sumN
  rw [← hm]
  conv => rhs; rw [e]
  rw [List.map_append, List.sum_append]
  omega
theorem sumN_all {PS : List (List ByteArray)} {m : Nat} (hm : (PS.map List.length).sum = m) : sumN PS PS.length = m := by
  unfold sumN; rw [List.take_length]; exact hm

set_option maxRecDepth 100000 in
set_option maxHeartbeats 4000000 in
theorem once_walk (O : Own12) (v : Value) (l : List ByteArray) (n : Int) (w : World) (h : TRow w v l) (h1 : -9223372036854775808 ≤ n) (h2 : n ≤ 9223372036854775807) :
    Calls Try.prog 5 #[.int .i64 n, v] w fun e w' => e = .returned (.bool true) ∧ Below w.heap.size w w' := by
  have HAl := Lib.hid (alive_any O)
  have HG := Lib.hid (fun W (d : Below w.heap.size w W) => great_any v l W (h.on d))
  cases hg : greatT l
  rotate_left
  · rw [hg] at HG
    obtain ⟨a, c, rfl, -, -⟩ := h
    go_enter Try.func5, Try.ntmps5
    go_wp2_with (first
      | (go_at_call 7; refine (HAl.out _).mono ?_; rintro e w1 ⟨rfl, n1⟩)
      | (go_at_call 12; refine (HG.out _ n1).mono ?_; rintro e w2 ⟨rfl, hw2⟩; subst hw2))
    go_ret
    exact ⟨rfl, n1⟩
  · obtain ⟨hl1, hl2⟩ := greatT_not hg
    rw [hg] at HG
    have HP1 := Lib.hid (fun W (d : Below w.heap.size w W) => O.parts v l n W (h.on d) (by omega) (fun s hs => by have := hl2 s hs; omega) h1 h2)
    have hm1 := shardsOf_one n
    have hm4 := shardsOf_le n
    have hpl := parts_len n l
    have HCT := Lib.hid (parts_count n l)
    have HPI := Lib.hid (fun i (hi : i < (partsOf n l).length) => show ((partsOf n l)[i]).length ≤ 100 ∧ ∀ k (hk : k < ((partsOf n l)[i]).length), shardOf (((partsOf n l)[i])[k]) n = i ∧ (((partsOf n l)[i])[k]).size ≤ 200 by
      have e := parts_at n l i hi
      refine ⟨by rw [e]; have := part_len n l i; omega, fun k hk => ?_⟩
      have hmem : ((partsOf n l)[i])[k] ∈ partOf n l i := by rw [← e]; exact List.getElem_mem hk
      exact ⟨part_in n l i _ hmem, hl2 _ (List.mem_filter.1 hmem).1⟩)
    have HOF := Lib.hid (fun (s : ByteArray) (W : World) (hs : s.size ≤ 200) => O.of s n W (by omega) h1 h2)
    generalize partsOf n l = PS at *
    rw [← hpl] at hm1 hm4
    clear hpl
    obtain ⟨a, c, rfl, -, -⟩ := h
    clear hl2 O
    go_enter Try.func5, Try.ntmps5
    go_wp2_with fail
    refine (HAl.out _).mono ?_
    rintro e w1 ⟨rfl, n1⟩
    have D1 := Lib.hid n1
    clear n1 HAl
    go_wp2_with fail
    refine (HG.out _ D1.out).mono ?_
    rintro e w2 ⟨rfl, rfl⟩
    clear HG
    go_wp2_with fail
    refine (HP1.out _ D1.out).mono ?_
    rintro e w3 ⟨⟨vA, rfl, hA⟩, n3⟩
    have D3 := Lib.hid (D1.out.trans (n3.mono D1.out.size))
    obtain ⟨bA, oA, cA, hvA, -, -⟩ := hA.at hm1
    subst hvA
    have HA := Lib.hid hA
    have hz3 := D3.out.size
    clear hA n3 D1 HP1
    go_wp2_with fail
    go_loopw [6, 7] (fun sn si wr => ∃ i : Nat, i ≤ PS.length ∧ si = .int .i64 i ∧ sn = .int .i64 (sumN PS i) ∧ Hid (Below w3.heap.size w3 wr)) (fun _ si _ => PS.length - (intOf si).toNat)
    case atStart => exact ⟨0, Nat.zero_le _, rfl, rfl, Below.refl _ _⟩
    case round =>
      obtain ⟨i, hi, rfl, rfl, HD⟩ := hrel
      obtain ⟨wo, hwo⟩ : ∃ wo, wo = wr := ⟨_, rfl⟩
      subst hwo
      by_cases hlt : i < PS.length
      · obtain ⟨b', o', c', hv', hb', GA⟩ := (HA.out.on HD.out).at hm1
        injection hv' with e1 _ e2
        injection e1 with e1
        injection e1 with e1 e3 _
        subst e1 e2 e3
        obtain ⟨sA, f1, r1⟩ := GA i hlt
        have i1 : (i : Int) < (PS.length : Int) := by omega
        have i2 : (0 : Int) ≤ (i : Int) := by omega
        have HNX := Lib.hid (sumN_next hlt)
        obtain ⟨hpm, hpi⟩ := HPI.out i hlt
        have HPK := Lib.hid hpi
        have hsl := sumN_le (i := i) HCT.out
        obtain ⟨u1, v1, rfl, hcv, hat⟩ := r1
        generalize PS[i] = L at *
        have HAT := Lib.hid hat
        generalize sumN PS i = S at *
        have i3 : IntKind.i64.wrap ((S : Int) + (L.length : Int)) = (S : Int) + (L.length : Int) := by rw [IntKind.wrap_i64]; omega
        clear GA HA hpi hat
        go_wp2_with fail
        go_loopw [8] (fun sk wr => ∃ k : Nat, k ≤ L.length ∧ sk = .int .i64 k ∧ Hid (Below wo.heap.size wo wr)) (fun sk _ => L.length - (intOf sk).toNat)
        case atStart => exact ⟨0, Nat.zero_le _, rfl, Below.refl _ _⟩
        case round =>
          obtain ⟨k, hk, rfl, HDI⟩ := hrel
          have f1 := keepC HDI.out f1 (World.block_lt_of_cell? _ _ f1)
          by_cases hkl : k < L.length
          · obtain ⟨b2, o2, rfl, hb2, hL⟩ := HAT.out (ne_of_lt hkl)
            have g1 := t_at (hL.on hb2 HDI.out) k hkl
            obtain ⟨p1, p2⟩ := HPK.out k hkl
            have HF := Lib.hid (fun W => HOF.out L[k] W p2)
            rw [p1] at HF
            generalize L[k] = s at *
            have j1 : (k : Int) < (L.length : Int) := by omega
            have j2 : (0 : Int) ≤ (k : Int) := by omega
            have j3 : ((i : Int) == (i : Int)) = true := by simp
            clear hL HAT p1
            go_wp2_with (first | (go_at_call 8; refine (HF.out _).mono ?_; rintro e w4 ⟨rfl, n4⟩))
            exact ⟨⟨k + 1, by omega, by go_num, HDI.out.trans (n4.mono HDI.out.size)⟩, by simp [intOf]; omega⟩
          · have j1 : ¬ (k : Int) < (L.length : Int) := by omega
            go_wp2_with fail
            exact ⟨⟨i + 1, by omega, by go_num, by rw [HNX.out, Int.natCast_add], HD.out.trans (HDI.out.mono HD.out.size)⟩, by simp [intOf]; omega⟩
      · have i1 : ¬ (i : Int) < (PS.length : Int) := by omega
        have hie : i = PS.length := by omega
        subst hie
        have HS := Lib.hid (sumN_all HCT.out)
        rw [HS.out]
        have q1 : ((l.length : Int) == (l.length : Int)) = true := by simp
        have q2 : (1 : Int) ≤ (PS.length : Int) := by omega
        have q3 : decide ((1 : Int) ≤ (PS.length : Int)) = true := decide_eq_true q2
        go_wp2_with fail
        go_ret
        exact ⟨by first | rfl | simp, D3.out.trans (HD.out.mono hz3)⟩
end Go.Proofs.Ytpbmehigklikdaa.Sp
