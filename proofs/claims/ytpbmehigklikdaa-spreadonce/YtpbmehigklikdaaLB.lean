/- Walk over Own12: the law SpreadParts. -/
import Derived.Test.YtpbmehigklikdaaAL12
import Derived.Test.YtpbmehigklikdaaQ12
import Derived.Deep.RegionHeld3
namespace Go.Proofs.Ytpbmehigklikdaa.Sp
open Go Go.RowKit

theorem PRow.at {w : World} {v : Value} {L : List (List ByteArray)} (h : PRow w v L) (h0 : 0 < L.length) : ∃ b o c, v = .slice (some ⟨b, o, none⟩) L.length c ∧ b < w.heap.size ∧ ∀ i (hi : i < L.length), ∃ sl, w.cell? ⟨b, o + i, none⟩ = some sl ∧ TRow w sl L[i] := by
  obtain ⟨rs, hg, rfl, h3⟩ := h
  obtain ⟨b, o, c, hv, -, hb, hL⟩ := hg.open (by intro e; subst e; simp at h0)
  refine ⟨b, o, c, by rw [List.length_map]; exact hv, hb, fun i hi => ?_⟩
  have hi' : i < rs.length := by simpa using hi
  refine ⟨(rs[i]).1, ?_, ?_⟩
  · have := hL i hi' 0 _ rfl
    rw [Nat.mul_one, Nat.add_zero] at this
    exact this
  · rw [List.getElem_map]
    exact h3 _ (List.getElem_mem hi')
theorem pp_on {p1 p2 : Addr} {v1 v2 : Value} {w0 w1 w2 : World} (h : (w1.cell? p1 = some v1 ∧ w1.cell? p2 = some v2) ∧ Below w0.heap.size w0 w1) (n : Below w1.heap.size w1 w2) : (w2.cell? p1 = some v1 ∧ w2.cell? p2 = some v2) ∧ Below w0.heap.size w0 w2 := by
  obtain ⟨⟨h1, h2⟩, h4⟩ := h
  refine ⟨⟨?_, ?_⟩, h4.trans (n.mono h4.size)⟩
  · rw [n.cell (World.block_lt_of_cell? _ _ h1)]; exact h1
  · rw [n.cell (World.block_lt_of_cell? _ _ h2)]; exact h2

set_option maxRecDepth 100000 in
set_option maxHeartbeats 4000000 in
theorem parts_walk (O : Own12) (v : Value) (l : List ByteArray) (n : Int) (w : World) (h : TRow w v l) (h1 : -9223372036854775808 ≤ n) (h2 : n ≤ 9223372036854775807) :
    Calls Try.prog 4 #[.int .i64 n, v] w fun e w' => e = .returned (.bool true) ∧ Below w.heap.size w w' := by
  have HAl := Lib.hid (alive_any O)
  have HG := Lib.hid (fun W (d : Below w.heap.size w W) => great_any v l W (h.on d))
  cases hg : greatT l
  rotate_left
  · rw [hg] at HG
    obtain ⟨a, c, rfl, -, -⟩ := h
    go_enter Try.func4, Try.ntmps4
    go_wp2_with (first
      | (go_at_call 7; refine (HAl.out _).mono ?_; rintro e w1 ⟨rfl, n1⟩)
      | (go_at_call 12; refine (HG.out _ n1).mono ?_; rintro e w2 ⟨rfl, hw2⟩; subst hw2))
    go_ret
    exact ⟨rfl, n1⟩
  · obtain ⟨hl1, hl2⟩ := greatT_not hg
    rw [hg] at HG
    obtain ⟨j0, hi, hz0, hz1, hz2⟩ := info9s
    have HI := Lib.hid (And.intro hi (And.intro hz0 (And.intro hz1 hz2)))
    clear hi hz0 hz1 hz2 hg
    have HP1 := Lib.hid (fun v2 W (h : TRow W v2 l) => O.parts v2 l n W h (by omega) (fun s hs => by have := hl2 s hs; omega) h1 h2)
    have HP2 := Lib.hid (fun W (d : Below w.heap.size w W) => refParts_any v l n W (h.on d) (by omega) (fun s hs => by have := hl2 s hs; omega))
    have HSM := Lib.hid (fun v2 W (h3 : TRow W v2 l) (d : Below w.heap.size w W) => same_any v2 v l W h3 (h.on d) (by omega))
    have HTR := Lib.hid (fun W (d : Below w.heap.size w W) => h.on d)
    have hm1 := shardsOf_one n
    have hm4 := shardsOf_le n
    have hpl := parts_len n l
    have HPM := Lib.hid (fun i (hi : i < (partsOf n l).length) => show ((partsOf n l)[i]).length ≤ 100 by rw [parts_at]; have := part_len n l i; omega)
    generalize partsOf n l = PS at *
    rw [← hpl] at hm1 hm4
    clear hpl
    obtain ⟨a, c, rfl, -, -⟩ := h
    clear hl2 O
    go_enter Try.func4, Try.ntmps4
    go_wp2_with fail
    refine (HAl.out _).mono ?_
    rintro e w1 ⟨rfl, n1⟩
    have D1 := Lib.hid n1
    clear n1 HAl
    go_wp2_with fail
    refine (HG.out _ D1.out).mono ?_
    rintro e w2 ⟨rfl, rfl⟩
    clear HG
    have dA := Lib.hid (aBelow w2 (.cells #[] 9))
    obtain ⟨at1, ac1, hve, -, hat⟩ := HTR.out _ (D1.out.trans (dA.out.mono D1.out.size))
    injection hve with e1 _ e2
    subst e1 e2
    have HN0 := Lib.hid (gat_news txtC_len (by decide) hat)
    have HG0 := Lib.hid (gat_none hat)
    have HM0 := Lib.hid (World.ownsRow_made (base := w2.heap.size) (e := 9) (size := 1) w2 #[] 0 (Nat.le_refl _) (Nat.zero_le _) (by simp))
    clear hat
    go_wp2_with (first | (at_builtin; refine wpList_append_any rfl _ _ 27 rfl w2.heap.size 9 j0 (.string ⟨#[]⟩) 1 16 Try.underlying27 HI.out.1 HI.out.2.1 HI.out.2.2.1 HI.out.2.2.2 rfl (by decide) _ _ _ rfl HM0.out a l.length c (flatG txtC l) rfl (flatG_len txtC_len l) HG0.out HN0.out (flatG_cells1 txtC_one l) (by unfold maxLen; omega) (by omega) (by simp) ?_; intro v5 w3 hown5 hgrow5 hnil5))
    have HTV := Lib.hid (show TRow w3 v5 l from ownG_row txtC_len (by simpa using hown5))
    have D3 := Lib.hid (D1.out.trans (((dA.out).grown hgrow5 (by simp) (fun j hj => by cases hj; exact Nat.le_refl _)).mono D1.out.size))
    clear hown5 hgrow5 hnil5 HN0 HG0 HM0 dA D1 HTR HI
    refine (HP1.out _ _ HTV.out).mono ?_
    rintro e w4 ⟨⟨vA, rfl, hA⟩, n4⟩
    have D4 := Lib.hid (D3.out.trans (n4.mono D3.out.size))
    have HTV := Lib.hid (HTV.out.on n4)
    clear n4 D3 HP1
    go_wp2_with fail
    refine (HP2.out _ D4.out).mono ?_
    rintro e w5 ⟨⟨vB, rfl, hB⟩, n5⟩
    have D5 := Lib.hid (D4.out.trans (n5.mono D4.out.size))
    have HTV := Lib.hid (HTV.out.on n5)
    have hA := hA.on n5
    clear n5 D4 HP2
    obtain ⟨bA, oA, cA, hvA, -, -⟩ := hA.at hm1
    obtain ⟨bB, oB, cB, hvB, -, -⟩ := hB.at hm1
    subst hvA hvB
    have HA := Lib.hid hA
    have HB := Lib.hid hB
    clear hA hB
    have HSM2 := Lib.hid (HSM.out v5 w5 HTV.out D5.out)
    obtain ⟨a5, c5, hv5, -, -⟩ := HTV.out
    subst hv5
    go_wp2_with fail
    refine HSM2.out.mono ?_
    rintro e w6 ⟨rfl, n6⟩
    have D6 := Lib.hid (D5.out.trans (n6.mono D5.out.size))
    have HA := Lib.hid (HA.out.on n6)
    have HB := Lib.hid (HB.out.on n6)
    have hz6 := D6.out.size
    clear n6 D5 HSM HSM2 HTV
    go_wp2_with fail
    go_loopw [8] (fun i wr => ∃ k : Nat, k ≤ PS.length ∧ i = .int .i64 k ∧ Hid (Below w6.heap.size w6 wr)) (fun i _ => PS.length - (intOf i).toNat)
    case atStart => exact ⟨0, Nat.zero_le _, rfl, Below.refl _ _⟩
    case round =>
      obtain ⟨k, hk, rfl, HD⟩ := hrel
      by_cases hlt : k < PS.length
      · obtain ⟨b', o', c', hv', -, GA⟩ := (HA.out.on HD.out).at hm1
        injection hv' with e1 _ e2
        injection e1 with e1
        injection e1 with e1 e3 _
        subst e1 e2 e3
        obtain ⟨b', o', c', hv', -, GB⟩ := (HB.out.on HD.out).at hm1
        injection hv' with e1 _ e2
        injection e1 with e1
        injection e1 with e1 e3 _
        subst e1 e2 e3
        obtain ⟨sA, f1, r1⟩ := GA k hlt
        obtain ⟨sB, f2, r2⟩ := GB k hlt
        have i1 : (k : Int) < (PS.length : Int) := by omega
        have i2 : (0 : Int) ≤ (k : Int) := by omega
        have hpm := HPM.out k hlt
        have HS := Lib.hid (fun W (d : Below wr.heap.size wr W) => same_any sA sB PS[k] W (r1.on d) (r2.on d) (by omega))
        obtain ⟨u1, v1, rfl, -, -⟩ := r1
        obtain ⟨u2, v2, rfl, -, -⟩ := r2
        generalize PS[k] = L at *
        have hS : (wr.drew.cell? ⟨bA, oA + k, none⟩ = some (.slice u1 L.length v1) ∧ wr.drew.cell? ⟨bB, oB + k, none⟩ = some (.slice u2 L.length v2)) ∧ Below wr.heap.size wr wr.drew := ⟨⟨f1, f2⟩, (Below.refl _ _).drew⟩
        clear GA GB HA HB f1 f2
        go_wp2_with fail
        go_region_held3 (fun w' => (w'.cell? ⟨bA, oA + k, none⟩ = some (.slice u1 L.length v1) ∧ w'.cell? ⟨bB, oB + k, none⟩ = some (.slice u2 L.length v2)) ∧ Below wr.heap.size wr w') (first | exact hS | exact hS2) (first
          | (go_at_call 15; refine (HS.out _ hS.2).mono ?_; rintro e w7 ⟨rfl, n7⟩; have hS2 := pp_on hS n7)
          | fail)
        have D7 := Lib.hid (HD.out.trans (hS2.2.mono HD.out.size))
        rename_i hHeld
        clear hS hS2 hHeld HS n7
        go_wp2_with fail
        exact ⟨⟨k + 1, by omega, by go_num, D7⟩, by simp [intOf]; omega⟩
      · have i1 : ¬ (k : Int) < (PS.length : Int) := by omega
        go_wp2_with fail
        go_ret
        exact ⟨rfl, D6.out.trans (HD.out.mono hz6)⟩
end Go.Proofs.Ytpbmehigklikdaa.Sp
