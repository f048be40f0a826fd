/- The fixed fact: a walk over Own14. -/
import Derived.Test.YtmgfgfkkhcibcaaV14
namespace Go.Proofs.Ytmgfgfkkhcibcaa.Se
open Go Go.RowKit

theorem new_a (w : World) : WRow (w.alloc (.cells #[.int .i64 4, .int .i64 2, .string ⟨#[]⟩, .int .i64 0, .int .i64 8, .int .i64 0, .string ⟨#[]⟩, .int .i64 0] 29)) (.slice (some ⟨w.heap.size, 0, none⟩) 2 2) [w4, w8] := wrow_new w [w4, w8]
theorem new_b (w : World) : WRow (w.alloc (.cells #[.int .i64 7, .int .i64 0, .string ⟨#[]⟩, .int .i64 0] 29)) (.slice (some ⟨w.heap.size, 0, none⟩) 1 1) [w7] := wrow_new w [w7]
theorem new_c (w : World) : WRow (w.alloc (.cells #[.int .i64 8, .int .i64 0, .string ⟨#[]⟩, .int .i64 0] 29)) (.slice (some ⟨w.heap.size, 0, none⟩) 1 1) [w8] := wrow_new w [w8]
theorem new_L3 {w : World} {v1 v2 v3 : Value} {q1 q2 q3 : List Wr} (h1 : WRow w v1 q1) (h2 : WRow w v2 q2) (h3 : WRow w v3 q3) : LRow (w.alloc (.cells #[v1, v2, v3] 22)) (.slice (some ⟨w.heap.size, 0, none⟩) 3 3) [q1, q2, q3] :=
  lrow_new w [(v1, q1), (v2, q2), (v3, q3)] (by intro r hr; simp at hr; rcases hr with rfl | rfl | rfl <;> assumption)
theorem new_L2 {w : World} {v1 v2 : Value} {q1 q2 : List Wr} (h1 : WRow w v1 q1) (h2 : WRow w v2 q2) : LRow (w.alloc (.cells #[v1, v2] 22)) (.slice (some ⟨w.heap.size, 0, none⟩) 2 2) [q1, q2] :=
  lrow_new w [(v1, q1), (v2, q2)] (by intro r hr; simp at hr; rcases hr with rfl | rfl <;> assumption)
theorem new_L0 (w : World) : LRow w (.slice none 0 0) [] := ⟨[], GRow.nil w, rfl, fun r hr => by cases hr⟩

theorem okL3 : ∀ q ∈ [[w4, w8], [], [w7]], ∀ x ∈ q, okW x := by
  intro q hq
  simp only [List.mem_cons, List.not_mem_nil, or_false] at hq
  rcases hq with rfl | rfl | rfl
  · exact oka
  · exact okn
  · exact okb
theorem okL2 : ∀ q ∈ [[w4, w8], [w7]], ∀ x ∈ q, okW x := by
  intro q hq
  simp only [List.mem_cons, List.not_mem_nil, or_false] at hq
  rcases hq with rfl | rfl
  · exact oka
  · exact okb
theorem okL1 : ∀ q ∈ [[], [w4, w8]], ∀ x ∈ q, okW x := by
  intro q hq
  simp only [List.mem_cons, List.not_mem_nil, or_false] at hq
  rcases hq with rfl | rfl
  · exact okn
  · exact oka
set_option maxRecDepth 100000 in
set_option maxHeartbeats 4000000 in
theorem alive_any (O : Own14) (w : World) : Calls Try.prog 7 #[] w fun e w' => e = .returned (.bool true) ∧ Below w.heap.size w w' := by
  have D0 := Lib.hid (aBelow w (.cells #[.int .i64 4, .int .i64 2, .string ⟨#[]⟩, .int .i64 0, .int .i64 8, .int .i64 0, .string ⟨#[]⟩, .int .i64 0] 29))
  have HP1 := Lib.hid (O.push _ _ [] [w4, w8] _ (GRow.nil _) (new_a w) (by decide) (by decide) okn oka)
  rw [y1] at HP1
  go_enter Try.func7, Try.ntmps7
  go_wp2_with fail
  refine HP1.out.mono ?_
  rintro e w1 ⟨⟨v1, rfl, h1⟩, n1⟩
  have D1 := Lib.hid (D0.out.trans (n1.mono D0.out.size))
  obtain ⟨a1, c1, rfl, hc1, hl1⟩ := h1
  have HA := Lib.hid (show WRow w1 (.slice a1 2 c1) [w4, w8] from ⟨a1, c1, rfl, hc1, hl1⟩)
  clear n1 HP1 D0 hc1 hl1
  have N2 := Lib.hid (aBelow w1 (.cells #[.int .i64 7, .int .i64 0, .string ⟨#[]⟩, .int .i64 0] 29))
  have HP2 := Lib.hid (O.push _ _ [] [w7] _ (GRow.nil _) (new_b w1) (by decide) (by decide) okn okb)
  rw [y2] at HP2
  go_wp2_with fail
  refine HP2.out.mono ?_
  rintro e w2 ⟨⟨v2, rfl, h2⟩, n2⟩
  have D2 := Lib.hid (D1.out.trans ((N2.out.trans (n2.mono N2.out.size)).mono D1.out.size))
  have HA := Lib.hid (HA.out.on (N2.out.trans (n2.mono N2.out.size)))
  obtain ⟨a2, c2, rfl, hc2, hl2⟩ := h2
  have HB := Lib.hid (show WRow w2 (.slice a2 1 c2) [w7] from ⟨a2, c2, rfl, hc2, hl2⟩)
  clear n2 HP2 D1 N2 hc2 hl2
  have N3 := Lib.hid (aBelow w2 (.cells #[.int .i64 8, .int .i64 0, .string ⟨#[]⟩, .int .i64 0] 29))
  have HP3 := Lib.hid (O.push _ _ [w4, w8] [w8] _ (HA.out.on N3.out) (new_c w2) (by decide) (by decide) oka okc)
  rw [y3] at HP3
  go_wp2_with fail
  refine HP3.out.mono ?_
  rintro e w3 ⟨⟨v3, rfl, h3⟩, n3⟩
  have M3 := Lib.hid (N3.out.trans (n3.mono N3.out.size))
  have D3 := Lib.hid (D2.out.trans (M3.out.mono D2.out.size))
  have HA := Lib.hid (HA.out.on M3.out)
  have HB := Lib.hid (HB.out.on M3.out)
  obtain ⟨a3, c3, rfl, -, -⟩ := h3
  clear n3 HP3 D2 N3 M3
  have HP4 := Lib.hid (O.pop _ [w4, w8] w3 HA.out (by decide) oka)
  rw [y4] at HP4
  simp only [wV, w4] at HP4
  go_wp2_with fail
  refine HP4.out.mono ?_
  rintro e w4' ⟨⟨v4, rfl, h4⟩, n4⟩
  have D4 := Lib.hid (D3.out.trans (n4.mono D3.out.size))
  have HA := Lib.hid (HA.out.on n4)
  have HB := Lib.hid (HB.out.on n4)
  obtain ⟨a4, c4, rfl, -, -⟩ := h4
  clear n4 HP4 D3
  have HP5 := Lib.hid (fun W => O.pop _ [] W (GRow.nil _) (by decide) okn)
  simp only [y5, wV, zeroW] at HP5
  go_wp2_with fail
  refine (HP5.out _).mono ?_
  rintro e w5 ⟨⟨v5, rfl, h5⟩, n5⟩
  have B5 : w5.cell? ⟨w4'.heap.size, 0, none⟩ = some (.int .i64 4) := newC n5 (i := 0)
  have hb5 := World.block_lt_of_cell? _ _ B5
  have M5 := Lib.hid ((aBelow w4' (.cells #[.int .i64 4, .int .i64 2, .string ⟨#[]⟩, .int .i64 0] 29)).trans (n5.mono (by simp)))
  have D5 := Lib.hid (D4.out.trans (M5.out.mono D4.out.size))
  have HA := Lib.hid (HA.out.on M5.out)
  have HB := Lib.hid (HB.out.on M5.out)
  obtain ⟨a5, c5, rfl, -, -⟩ := h5
  generalize hbx : w4'.heap.size = bx at *
  clear n5 HP5 D4 M5
  have M6 := Lib.hid (aBelow w5 (.cells #[.int .i64 0, .int .i64 0, .string ⟨#[]⟩, .int .i64 0] 29))
  have B6 := keepC M6.out B5 hb5
  have D6 := Lib.hid (D5.out.trans (M6.out.mono D5.out.size))
  have HA := Lib.hid (HA.out.on M6.out)
  have HB := Lib.hid (HB.out.on M6.out)
  have hz6 : (w5.alloc (.cells #[.int .i64 0, .int .i64 0, .string ⟨#[]⟩, .int .i64 0] 29)).heap.size = w5.heap.size + 1 := by simp
  have N7 := Lib.hid (aBelow (w5.alloc (.cells #[.int .i64 0, .int .i64 0, .string ⟨#[]⟩, .int .i64 0] 29)) (.cells #[.slice a1 2 c1, .slice none 0 0, .slice a2 1 c2] 22))
  have HP7 := Lib.hid (O.stable 9 _ _ _ (new_L3 HA.out (GRow.nil _) HB.out) (by decide) (by decide) okL3 (by kernel_rfl) ok9)
  rw [y6, hz6] at HP7
  go_wp2_with fail
  refine HP7.out.mono ?_
  rintro e w7 ⟨rfl, n7⟩
  have M7 := Lib.hid (N7.out.trans (n7.mono N7.out.size))
  have D7 := Lib.hid (D6.out.trans (M7.out.mono D6.out.size))
  have HA := Lib.hid (HA.out.on M7.out)
  have HB := Lib.hid (HB.out.on M7.out)
  clear HP7 n7 N7 M7 D6 M6 D5 hz6 B5 B6 hb5
  have HP8 := Lib.hid (fun W => O.stable 9 _ [] W (new_L0 W) (by decide) (by decide) (fun q hq => by cases hq) rfl ok9)
  rw [y7] at HP8
  go_wp2_with fail
  refine (HP8.out _).mono ?_
  rintro e w8' ⟨rfl, n8⟩
  have D8 := Lib.hid (D7.out.trans (n8.mono D7.out.size))
  have HA := Lib.hid (HA.out.on n8)
  have HB := Lib.hid (HB.out.on n8)
  clear HP8 n8 D7
  have N9 := Lib.hid (aBelow w8' (.cells #[.slice none 0 0, .slice a1 2 c1] 22))
  have HP9 := Lib.hid (O.waits 2 _ _ _ (new_L2 (GRow.nil _) HA.out) (by decide) (by decide) okL1 ok2)
  rw [y8] at HP9
  go_wp2_with fail
  refine HP9.out.mono ?_
  rintro e w9 ⟨rfl, n9⟩
  have M9 := Lib.hid (N9.out.trans (n9.mono N9.out.size))
  have D9 := Lib.hid (D8.out.trans (M9.out.mono D8.out.size))
  have HA := Lib.hid (HA.out.on M9.out)
  have HB := Lib.hid (HB.out.on M9.out)
  clear HP9 n9 N9 M9 D8
  have N10 := Lib.hid (aBelow w9 (.cells #[.slice a1 2 c1, .slice a2 1 c2] 22))
  have HP10 := Lib.hid (O.waits 3 _ _ _ (new_L2 HA.out HB.out) (by decide) (by decide) okL2 ok3)
  rw [y9] at HP10
  go_wp2_with fail
  refine HP10.out.mono ?_
  rintro e w10 ⟨rfl, n10⟩
  have M10 := Lib.hid (N10.out.trans (n10.mono N10.out.size))
  have D10 := Lib.hid (D9.out.trans (M10.out.mono D9.out.size))
  have HA := Lib.hid (HA.out.on M10.out)
  have HB := Lib.hid (HB.out.on M10.out)
  clear HP10 n10 N10 M10 D9
  have N11 := Lib.hid (aBelow w10 (.cells #[.slice a1 2 c1, .slice a2 1 c2] 22))
  have HP11 := Lib.hid (O.pending _ _ _ (new_L2 HA.out HB.out) (by decide) (by decide))
  rw [ya] at HP11
  go_wp2_with fail
  refine HP11.out.mono ?_
  rintro e w11 ⟨rfl, n11⟩
  have M11 := Lib.hid (N11.out.trans (n11.mono N11.out.size))
  have D11 := Lib.hid (D10.out.trans (M11.out.mono D10.out.size))
  have HA := Lib.hid (HA.out.on M11.out)
  have HB := Lib.hid (HB.out.on M11.out)
  clear HP11 n11 N11 M11 D10
  have HP12 := Lib.hid (O.right _ _ _ HA.out (by decide) oka)
  rw [yb] at HP12
  go_wp2_with fail
  refine HP12.out.mono ?_
  rintro e w12 ⟨rfl, n12⟩
  have D12 := Lib.hid (D11.out.trans (n12.mono D11.out.size))
  have HA := Lib.hid (HA.out.on n12)
  have HB := Lib.hid (HB.out.on n12)
  clear HP12 n12 D11
  have HP13 := Lib.hid (O.same _ _ _ _ _ HA.out HA.out (by decide) (by decide) oka oka)
  rw [yc] at HP13
  go_wp2_with fail
  refine HP13.out.mono ?_
  rintro e w13 ⟨rfl, n13⟩
  have D13 := Lib.hid (D12.out.trans (n13.mono D12.out.size))
  have HA := Lib.hid (HA.out.on n13)
  have HB := Lib.hid (HB.out.on n13)
  clear HP13 n13 D12
  have HP14 := Lib.hid (O.same _ _ _ _ _ HA.out HB.out (by decide) (by decide) oka okb)
  rw [yd] at HP14
  go_wp2_with fail
  refine HP14.out.mono ?_
  rintro e w14 ⟨rfl, n14⟩
  have D14 := Lib.hid (D13.out.trans (n14.mono D13.out.size))
  go_wp2_with fail
  go_ret
  exact ⟨rfl, D14.out⟩
end Go.Proofs.Ytmgfgfkkhcibcaa.Se
