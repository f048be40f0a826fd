/- Walk over Own15: the law PinAdds. -/
import Derived.Test.YtigkpfdbbifcgaaV15
namespace Go.Proofs.Ytigkpfdbbifcgaa.Pj
open Go Go.RowKit

theorem sameP_self (l : List Pn) : sameP l l = true := decide_eq_true rfl

set_option maxRecDepth 100000 in
set_option maxHeartbeats 4000000 in
theorem adds_walk (O : Own15) (HA0 : ∀ w : World, Calls Try.prog 7 #[] w fun e w' => e = .returned (.bool true) ∧ Below w.heap.size w w') (v1 v2 : Value) (l p : List Pn) (id : Int) (w : World) (h1 : PRow w v1 l) (h2 : PRow w v2 p) (k1 : ∀ x ∈ l, okP x) (k2 : ∀ x ∈ p, okP x) (k3 : ok64 id) :
    Calls Try.prog 3 #[v1, v2, .int .i64 id] w fun e w' => e = .returned (.bool true) ∧ Below w.heap.size w w' := by
  have HAl := Lib.hid HA0
  obtain ⟨a1, c1, rfl, hc1, hl1⟩ := h1
  obtain ⟨a2, c2, rfl, hc2, hl2⟩ := h2
  by_cases hq : 100 < l.length
  · have i1 : (100 : Int) < (l.length : Int) := by omega
    clear hl1 hl2
    go_enter Try.func3, Try.ntmps3
    go_wp2_with fail
    refine (HAl.out _).mono ?_
    rintro e w1 ⟨rfl, n1⟩
    go_wp2_with fail
    go_ret
    exact ⟨rfl, n1⟩
  · have i1 : ¬ (100 : Int) < (l.length : Int) := by omega
    by_cases hm : 100 < p.length
    · have i2 : (100 : Int) < (p.length : Int) := by omega
      clear hl1 hl2
      go_enter Try.func3, Try.ntmps3
      go_wp2_with fail
      refine (HAl.out _).mono ?_
      rintro e w1 ⟨rfl, n1⟩
      go_wp2_with fail
      go_ret
      exact ⟨rfl, n1⟩
    · have i2 : ¬ (100 : Int) < (p.length : Int) := by omega
      obtain ⟨j0, hi, hz0, hz1, hz2⟩ := infoP
      have HI := Lib.hid (And.intro hi (And.intro hz0 (And.intro hz1 hz2)))
      clear hi hz0 hz1 hz2
      have H1 := Lib.hid (show PRow w (.slice a1 l.length c1) l from ⟨a1, c1, rfl, hc1, hl1⟩)
      have H2 := Lib.hid (show PRow w (.slice a2 p.length c2) p from ⟨a2, c2, rfl, hc2, hl2⟩)
      have HL1 := Lib.hid hl1
      clear hl1 hl2
      have hpl := addP_len l p
      have hol := dropP_len l id
      have HP := Lib.hid (fun v W (hv : PRow W v l) (d : Below w.heap.size w W) => O.add v (.slice a2 p.length c2) l p W hv (H2.out.on d) (by omega) (by omega) k1 k2)
      have HR := Lib.hid (fun W (d : Below w.heap.size w W) => refAdd_any (.slice a1 l.length c1) (.slice a2 p.length c2) l p W (H1.out.on d) (H2.out.on d) (by omega) (by omega))
      have HO := Lib.hid (fun v W (hv : PRow W v l) => O.drop v l id W hv (by omega) k1 k3)
      have HOR := Lib.hid (fun W (d : Below w.heap.size w W) => refDrop_any (.slice a1 l.length c1) l id W (H1.out.on d) (by omega))
      generalize addP l p = P at *
      generalize dropP l id = R at *
      obtain ⟨A, E⟩ := P
      obtain ⟨B, G⟩ := R
      simp only at HP HR HO HOR hpl hol
      have qE : (E == E) = true := by simp
      have qG : (G == G) = true := by simp
      clear k1 k2 k3 O
      go_enter Try.func3, Try.ntmps3
      go_wp2_with fail
      refine (HAl.out _).mono ?_
      rintro e w1 ⟨rfl, n1⟩
      have D1 := Lib.hid n1
      have dA := Lib.hid (aBelow w1 (.cells #[] 35))
      have DA := Lib.hid (D1.out.trans (dA.out.mono D1.out.size))
      have HL := Lib.hid (HL1.out.on DA.out)
      have HN1 := Lib.hid (gat_news pC_len (by decide) HL.out)
      have HG1 := Lib.hid (gat_none HL.out)
      have HM0 := Lib.hid (World.ownsRow_made (base := w1.heap.size) (e := 35) (size := 2) w1 #[] 0 (Nat.le_refl _) (Nat.zero_le _) (by simp))
      clear n1 HL1 HL
      go_wp2_with (first
        | (at_builtin; refine wpList_append_any rfl _ _ 22 rfl w1.heap.size 35 j0 (.agg #[.int .i64 0, .int .i64 0]) 2 16 Try.underlying22 HI.out.1 HI.out.2.1 HI.out.2.2.1 HI.out.2.2.2 rfl (by decide) _ _ _ rfl HM0.out a1 l.length c1 (flatG pC l) rfl (flatG_len pC_len l) HG1.out HN1.out (flatG_cells1 pC_one l) (by unfold maxLen; omega) (by omega) (by simp) ?_
           intro v5 w3 hown5 hgrow5 hnil5
           have D3 := Lib.hid (D1.out.trans (((dA.out).grown hgrow5 (by simp) (fun j hj => by cases hj; exact Nat.le_refl _)).mono D1.out.size))
           have HV : Hid (PRow w3 v5 l) := Lib.hid (ownG_row pC_len (by simpa using hown5))
           obtain ⟨a5, c5, rfl, -, -⟩ := HV.out
           clear hown5 hgrow5 hnil5 HN1 HG1 HM0 dA DA HI))
      refine (HP.out _ _ HV.out D3.out).mono ?_
      rintro e w4 ⟨⟨v4, rfl, h4⟩, n4⟩
      have D4 := Lib.hid (D3.out.trans (n4.mono D3.out.size))
      have HV := Lib.hid (HV.out.on n4)
      have G4 := Lib.hid h4
      obtain ⟨a4, c4, rfl, -, -⟩ := G4.out
      clear n4 h4 HP D3
      go_wp2_with fail
      refine (HR.out _ D4.out).mono ?_
      rintro e w5 ⟨⟨v5, rfl, h5⟩, n5⟩
      have D5 := Lib.hid (D4.out.trans (n5.mono D4.out.size))
      have HV := Lib.hid (HV.out.on n5)
      have G4 := Lib.hid (G4.out.on n5)
      have G5 := Lib.hid h5
      obtain ⟨a5', c5', rfl, -, -⟩ := G5.out
      clear n5 h5 HR D4
      go_wp2_with fail
      refine (HO.out _ _ HV.out).mono ?_
      rintro e w6 ⟨⟨v6, rfl, h6⟩, n6⟩
      have D6 := Lib.hid (D5.out.trans (n6.mono D5.out.size))
      have HV := Lib.hid (HV.out.on n6)
      have G4 := Lib.hid (G4.out.on n6)
      have G5 := Lib.hid (G5.out.on n6)
      have G6 := Lib.hid h6
      obtain ⟨a6, c6, rfl, -, -⟩ := G6.out
      clear n6 h6 HO D5
      go_wp2_with fail
      refine (HOR.out _ D6.out).mono ?_
      rintro e w7 ⟨⟨v7, rfl, h7⟩, n7⟩
      have D7 := Lib.hid (D6.out.trans (n7.mono D6.out.size))
      have HV := Lib.hid (HV.out.on n7)
      have G6 := Lib.hid (G6.out.on n7)
      have G7 := Lib.hid h7
      have HSA := Lib.hid (refSame_any _ _ A A _ (G4.out.on n7) (G5.out.on n7) (by omega))
      rw [sameP_self] at HSA
      obtain ⟨a7, c7, rfl, -, -⟩ := G7.out
      clear n7 h7 HOR D6 G4 G5
      go_wp2_with fail
      refine HSA.out.mono ?_
      rintro e w8 ⟨rfl, n8⟩
      have D8 := Lib.hid (D7.out.trans (n8.mono D7.out.size))
      have HV := Lib.hid (HV.out.on n8)
      have HSB := Lib.hid (refSame_any _ _ B B _ (G6.out.on n8) (G7.out.on n8) (by omega))
      rw [sameP_self] at HSB
      clear n8 HSA D7 G6 G7
      go_wp2_with fail
      refine HSB.out.mono ?_
      rintro e w9 ⟨rfl, n9⟩
      have D9 := Lib.hid (D8.out.trans (n9.mono D8.out.size))
      have HV := Lib.hid (HV.out.on n9)
      have HSC := Lib.hid (refSame_any _ _ l l _ HV.out (H1.out.on D9.out) (by omega))
      rw [sameP_self] at HSC
      clear n9 HSB D8
      go_wp2_with fail
      refine HSC.out.mono ?_
      rintro e w10 ⟨rfl, n10⟩
      have D10 := Lib.hid (D9.out.trans (n10.mono D9.out.size))
      go_wp2_with fail
      go_ret
      exact ⟨rfl, D10.out⟩
end Go.Proofs.Ytigkpfdbbifcgaa.Pj
