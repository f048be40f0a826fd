/- The fixed fact: a walk over Own15. -/
import Derived.Test.YtigkpfdbbifcgaaV15
namespace Go.Proofs.Ytigkpfdbbifcgaa.Pj
open Go Go.RowKit

set_option maxRecDepth 100000 in
set_option maxHeartbeats 4000000 in
theorem alive_any (O : Own15) (w : World) : Calls Try.prog 7 #[] w fun e w' => e = .returned (.bool true) ∧ Below w.heap.size w w' := by
  have D0 := Lib.hid (aBelow w (.cells #[.int .i64 3, .int .i64 7, .int .i64 1, .int .i64 4] 35))
  have HP1 := Lib.hid (O.add _ _ [] [q37, q14] _ (GRow.nil _) (new_a w) (by decide) (by decide) okN okA)
  rw [y1] at HP1
  go_enter Try.func7, Try.ntmps7
  go_wp2_with fail
  refine HP1.out.mono ?_
  rintro e w1 ⟨⟨v1, rfl, h1⟩, n1⟩
  have D1 := Lib.hid (D0.out.trans (n1.mono D0.out.size))
  have HB := Lib.hid h1
  obtain ⟨b1, o1, c1, rfl, hc1, hb1, hL1⟩ := h1.open (by simp)
  obtain ⟨c0, -⟩ := p_at hL1 0 (by simp)
  simp only [Nat.zero_mul, Nat.add_zero, List.getElem_cons_zero] at c0
  have c0 : w1.cell? ⟨b1, o1, none⟩ = some (.int .i64 1) := c0
  have HB := Lib.hid (show PRow w1 (.slice (some ⟨b1, o1, none⟩) 2 c1) [q14, q37] from HB.out)
  clear n1 HP1 D0 hL1 h1
  have N2 := Lib.hid (aBelow w1 (.cells #[.int .i64 3, .int .i64 0] 35))
  have HP2 := Lib.hid (O.add _ _ [q14, q37] [q30] _ (HB.out.on N2.out) (new_c w1) (by decide) (by decide) okB okC)
  rw [y2] at HP2
  go_wp2_with fail
  refine HP2.out.mono ?_
  rintro e w2 ⟨⟨v2, rfl, h2⟩, n2⟩
  have M2 := Lib.hid (N2.out.trans (n2.mono N2.out.size))
  have D2 := Lib.hid (D1.out.trans (M2.out.mono D1.out.size))
  have HB := Lib.hid (HB.out.on M2.out)
  have c0 := keepC M2.out c0 hb1
  have hb1 := Nat.lt_of_lt_of_le hb1 M2.out.size
  obtain ⟨a2, c2, rfl, -, -⟩ := h2
  clear n2 HP2 D1 N2 M2
  have HP3 := Lib.hid (O.drop _ _ 2 _ HB.out (by decide) okB (ok_num 2 (by decide)))
  rw [y3] at HP3
  go_wp2_with fail
  refine HP3.out.mono ?_
  rintro e w3 ⟨⟨v3, rfl, h3⟩, n3⟩
  have D3 := Lib.hid (D2.out.trans (n3.mono D2.out.size))
  have HB := Lib.hid (HB.out.on n3)
  have c0 := keepC n3 c0 hb1
  have hb1 := Nat.lt_of_lt_of_le hb1 n3.size
  obtain ⟨a3, c3, rfl, -, -⟩ := h3
  clear n3 HP3 D2
  have HP4 := Lib.hid (O.drop _ _ 1 _ HB.out (by decide) okB (ok_num 1 (by decide)))
  rw [y4] at HP4
  go_wp2_with fail
  refine HP4.out.mono ?_
  rintro e w4 ⟨⟨v4, rfl, h4⟩, n4⟩
  have D4 := Lib.hid (D3.out.trans (n4.mono D3.out.size))
  have HB := Lib.hid (HB.out.on n4)
  have c0 := keepC n4 c0 hb1
  have hb1 := Nat.lt_of_lt_of_le hb1 n4.size
  obtain ⟨a4, c4, rfl, hc4, hl4⟩ := h4
  have HM := Lib.hid (show PRow w4 (.slice a4 1 c4) [q37] from ⟨a4, c4, rfl, hc4, hl4⟩)
  clear n4 HP4 D3 hc4 hl4
  have HP5 := Lib.hid (O.find _ _ 3 _ HB.out (by decide) okB (ok_num 3 (by decide)))
  rw [y5] at HP5
  go_wp2_with fail
  refine HP5.out.mono ?_
  rintro e w5 ⟨rfl, n5⟩
  have D5 := Lib.hid (D4.out.trans (n5.mono D4.out.size))
  have HB := Lib.hid (HB.out.on n5)
  have HM := Lib.hid (HM.out.on n5)
  have c0 := keepC n5 c0 hb1
  have hb1 := Nat.lt_of_lt_of_le hb1 n5.size
  clear n5 HP5 D4
  have HP6 := Lib.hid (O.floor 9 _ _ _ HB.out (by decide) okB (ok_num 9 (by decide)))
  rw [y6] at HP6
  go_wp2_with fail
  refine HP6.out.mono ?_
  rintro e w6 ⟨rfl, n6⟩
  have D6 := Lib.hid (D5.out.trans (n6.mono D5.out.size))
  have HB := Lib.hid (HB.out.on n6)
  have HM := Lib.hid (HM.out.on n6)
  clear n6 HP6 D5 c0 hb1
  have HP7 := Lib.hid (fun W => O.floor 9 _ [] W (GRow.nil W) (by decide) okN (ok_num 9 (by decide)))
  rw [y7] at HP7
  go_wp2_with fail
  refine (HP7.out _).mono ?_
  rintro e w7 ⟨rfl, n7⟩
  have D7 := Lib.hid (D6.out.trans (n7.mono D6.out.size))
  have HB := Lib.hid (HB.out.on n7)
  have HM := Lib.hid (HM.out.on n7)
  clear n7 HP7 D6
  have HP8 := Lib.hid (O.right _ _ _ HB.out (by decide) okB)
  rw [y8] at HP8
  go_wp2_with fail
  refine HP8.out.mono ?_
  rintro e w8 ⟨rfl, n8⟩
  have D8 := Lib.hid (D7.out.trans (n8.mono D7.out.size))
  have HB := Lib.hid (HB.out.on n8)
  have HM := Lib.hid (HM.out.on n8)
  clear n8 HP8 D7
  have HP9 := Lib.hid (O.same _ _ _ _ _ HB.out HB.out (by decide) (by decide) okB okB)
  rw [y9] at HP9
  go_wp2_with fail
  refine HP9.out.mono ?_
  rintro e w9 ⟨rfl, n9⟩
  have D9 := Lib.hid (D8.out.trans (n9.mono D8.out.size))
  have HB := Lib.hid (HB.out.on n9)
  have HM := Lib.hid (HM.out.on n9)
  clear n9 HP9 D8
  have HPA := Lib.hid (O.same _ _ _ _ _ HB.out HM.out (by decide) (by decide) okB okD)
  rw [ya] at HPA
  go_wp2_with fail
  refine HPA.out.mono ?_
  rintro e w10 ⟨rfl, n10⟩
  have D10 := Lib.hid (D9.out.trans (n10.mono D9.out.size))
  go_wp2_with fail
  go_ret
  exact ⟨rfl, D10.out⟩
end Go.Proofs.Ytigkpfdbbifcgaa.Pj
