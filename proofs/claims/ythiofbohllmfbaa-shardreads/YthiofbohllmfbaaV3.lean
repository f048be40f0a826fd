/- Some more versions put behind others, and a sample folded: walks of the document's. -/
import Derived.Test.YthiofbohllmfbaaV2
namespace Go.Proofs.Ythiofbohllmfbaa.Ch
open Go Go.RowKit Go.Sort Go.Lib Cl Ce

set_option maxRecDepth 100000 in
theorem info40 : ∃ i, Try.prog.info? 81 = some i ∧ i.zero = some (.agg #[.int .i64 0, .int .i64 0, .int .i64 0, .bool false, .int .i64 0, .int .i64 0]) ∧ i.size = 6 ∧ i.bytes = 48 := ⟨_, rfl, rfl, rfl, rfl⟩
theorem news_of {w W : World} {ad : Addr} {n c : Nat} {l : List Ver} (h : VRow w (.slice (some ad) n c) l) (d : Below w.heap.size w W) : ∀ j u, (flatG verC l)[j]? = some u → W.cell? (ad.add j) = some u := by
  intro j u hu
  have hne : l ≠ [] := fun e => by subst e; simp [flatG] at hu
  obtain ⟨b, o, c', hv, _, hb, hL⟩ := (h.on d).open hne
  cases hv
  rw [addr_add]
  exact hL.flat verC_len (by decide) j u hu
theorem own_some {w : World} {base T k : Nat} {v : Value} {n : Nat} {xs : List Value} (h : w.ownsRow base T k v n xs) (hv : v ≠ .slice none 0 0) : ∃ g cap, v = .slice (some ⟨g, 0, none⟩) n cap ∧ n ≤ cap := by
  rcases h.2 with ⟨h0, _⟩ | ⟨g, cap, cur, e, _, _, hc, _⟩
  · exact absurd h0 hv
  · exact ⟨g, cap, e, hc⟩
/-- A slice of versions that the call made. -/
def VOwn (base : Nat) (w : World) (v : Value) (l : List Ver) : Prop := w.ownsRow base 81 6 v l.length (flatG verC l)
theorem VOwn.row {base : Nat} {w : World} {v : Value} {l : List Ver} (h : VOwn base w v l) : VRow w v l := ownG_row verC_len h
theorem VOwn.nil (base : Nat) (w : World) : VOwn base w (.slice none 0 0) [] := ownG_nil _ _ _
theorem VOwn.on {base : Nat} {w w1 : World} {v : Value} {l : List Ver} (h : VOwn base w v l) (n : Below w.heap.size w w1) : VOwn base w1 v l := own_on h n
theorem VOwn.base {base b1 : Nat} {w : World} {v : Value} {l : List Ver} (h : VOwn base w v l) (hb : b1 ≤ base) : VOwn b1 w v l := by
  obtain ⟨h1, h2⟩ := h
  refine ⟨h1, ?_⟩
  rcases h2 with h2 | ⟨g, cap, cur, e, h3, h4⟩
  · exact Or.inl h2
  · exact Or.inr ⟨g, cap, cur, e, Nat.le_trans hb h3, h4⟩
theorem flat_two (l m : List Ver) : flatG verC (l ++ m) = flatG verC l ++ flatG verC m := flatG_append l m

set_option maxRecDepth 100000 in
set_option maxHeartbeats 4000000 in
theorem refPut_ss (a1 a2 : Addr) (c1 c2 : Nat) (l m : List Ver) (w : World) (h1 : VRow w (.slice (some a1) l.length c1) l) (h2 : VRow w (.slice (some a2) m.length c2) m) (hn1 : l.length ≤ 1000) (hn2 : m.length ≤ 1000) :
    Calls Try.prog 55 #[.slice (some a1) l.length c1, .slice (some a2) m.length c2] w fun e w' => (∃ v', e = .returned (.tuple #[v', .int .i64 (putV l m).2]) ∧ VOwn w.heap.size w' v' (putV l m).1) ∧ Below w.heap.size w w' := by
  obtain ⟨j0, hi, hz0, hz1, hz2⟩ := info40
  have HI := Lib.hid (And.intro hi (And.intro hz0 (And.intro hz1 hz2)))
  clear hi hz0 hz1 hz2
  have HN1 := Lib.hid (news_of h1 (aBelow w (Obj.cells #[] 81)))
  have HNW := Lib.hid (fun W (d : Below w.heap.size w W) => news_of h2 d)
  clear h1 h2
  go_enter Try.func55, Try.ntmps55
  go_wp2_with (first | (at_builtin; refine wpList_append_own _ rfl _ _ 57 rfl w.heap.size 81 j0 (.agg #[.int .i64 0, .int .i64 0, .int .i64 0, .bool false, .int .i64 0, .int .i64 0]) 6 48 Try.underlying57 HI.out.1 HI.out.2.1 HI.out.2.2.1 HI.out.2.2.2 rfl (by decide) _ _ _ rfl (World.ownsRow_made w #[] 0 (Nat.le_refl _) (Nat.zero_le _) (by simp)) a1 l.length c1 (flatG verC l) rfl (flatG_len verC_len l) HN1.out (flatG_cells1 verC_one l) (by unfold maxLen; omega) (by omega) (by simp) ?_; intro v4 w4 hown4 hgrow4 hnil4; have H4 := Lib.hid (show w4.ownsRow w.heap.size 81 6 v4 l.length (flatG verC l) from (by simpa using hown4)); have d4 : Below w.heap.size w w4 := ((Below.refl _ _).alloc (Nat.le_refl _) _).grown hgrow4 (by simp) (fun k hk => by cases hk; exact Nat.le_refl _); have HN2 := Lib.hid (HNW.out w4 d4); have hz4 := d4.size; clear hown4 hgrow4 hnil4) | (at_builtin; refine wpList_append_own _ rfl _ _ 57 rfl w.heap.size 81 j0 (.agg #[.int .i64 0, .int .i64 0, .int .i64 0, .bool false, .int .i64 0, .int .i64 0]) 6 48 Try.underlying57 HI.out.1 HI.out.2.1 HI.out.2.2.1 HI.out.2.2.2 rfl (by decide) _ _ _ rfl H4.out a2 m.length c2 (flatG verC m) rfl (flatG_len verC_len m) HN2.out (flatG_cells1 verC_one m) (by unfold maxLen; omega) (by omega) hz4 ?_; intro v5 w5 hown5 hgrow5 hnil5; have H5 := Lib.hid (show w5.ownsRow w.heap.size 81 6 v5 (l ++ m).length (flatG verC (l ++ m)) from (by rw [flat_two, List.length_append]; exact hown5)); have d5 : Below w.heap.size w w5 := d4.grown hgrow5 hz4 (fun k hk => (H4.out.lt k hk).1); clear hown5 hgrow5 hnil5))
  clear HN1 HN2 HNW H4 d4 hz4 HI
  have hr := ownG_row verC_len H5.out
  have HK := Lib.hid (refRightV_any _ (l ++ m) w5 hr (by rw [List.length_append]; omega))
  have HRR : Hid (VOwn w.heap.size w5 _ (l ++ m)) := H5
  obtain ⟨p5, q5, rfl, -, -⟩ := hr
  clear H5
  cases hv : vright (l ++ m)
  · have HM := Lib.hid (putV_no hv)
    rw [hv] at HK
    clear hv
    go_wp2_with fail
    refine (HK.out).mono ?_
    rintro e w6 ⟨rfl, n6⟩
    go_wp2_with fail
    go_ret2
    refine ⟨⟨.slice none 0 0, ?_, ?_⟩, d5.trans (n6.mono d5.size)⟩
    · rw [HM.out]; rfl
    · rw [HM.out]; exact VOwn.nil _ _
  · have HM := Lib.hid (putV_ok hv)
    rw [hv] at HK
    clear hv
    go_wp2_with fail
    refine (HK.out).mono ?_
    rintro e w6 ⟨rfl, n6⟩
    go_wp2_with fail
    go_ret2
    refine ⟨⟨.slice p5 (l.length + m.length) q5, ?_, ?_⟩, d5.trans (n6.mono d5.size)⟩
    · rw [HM.out]; rfl
    · rw [HM.out, ← List.length_append]; exact VOwn.on HRR.out n6

set_option maxRecDepth 100000 in
set_option maxHeartbeats 4000000 in
theorem refPut_sn (a1 : Addr) (c1 c2 : Nat) (l m : List Ver) (w : World) (h1 : VRow w (.slice (some a1) l.length c1) l) (hm : m = []) (hn1 : l.length ≤ 1000) :
    Calls Try.prog 55 #[.slice (some a1) l.length c1, .slice none 0 c2] w fun e w' => (∃ v', e = .returned (.tuple #[v', .int .i64 (putV l m).2]) ∧ VOwn w.heap.size w' v' (putV l m).1) ∧ Below w.heap.size w w' := by
  obtain ⟨j0, hi, hz0, hz1, hz2⟩ := info40
  have HI := Lib.hid (And.intro hi (And.intro hz0 (And.intro hz1 hz2)))
  clear hi hz0 hz1 hz2
  have hn2 : m.length ≤ 1000 := by rw [hm]; simp
  have HN1 := Lib.hid (news_of h1 (aBelow w (Obj.cells #[] 81)))
  have HM0 := Lib.hid hm
  clear h1 hm
  go_enter Try.func55, Try.ntmps55
  go_wp2_with (first | (at_builtin; refine wpList_append_own _ rfl _ _ 57 rfl w.heap.size 81 j0 (.agg #[.int .i64 0, .int .i64 0, .int .i64 0, .bool false, .int .i64 0, .int .i64 0]) 6 48 Try.underlying57 HI.out.1 HI.out.2.1 HI.out.2.2.1 HI.out.2.2.2 rfl (by decide) _ _ _ rfl (World.ownsRow_made w #[] 0 (Nat.le_refl _) (Nat.zero_le _) (by simp)) a1 l.length c1 (flatG verC l) rfl (flatG_len verC_len l) HN1.out (flatG_cells1 verC_one l) (by unfold maxLen; omega) (by omega) (by simp) ?_; intro v4 w4 hown4 hgrow4 hnil4; have H4 := Lib.hid (show w4.ownsRow w.heap.size 81 6 v4 l.length (flatG verC l) from (by simpa using hown4)); have d4 : Below w.heap.size w w4 := ((Below.refl _ _).alloc (Nat.le_refl _) _).grown hgrow4 (by simp) (fun k hk => by cases hk; exact Nat.le_refl _); have hz4 := d4.size; obtain ⟨p4, q4, hv4, hle4⟩ := own_some H4.out (fun e => by have := (hnil4.1 e).1; cases this); clear hown4 hgrow4 hnil4; subst hv4))
  have H5 : Hid (w4.ownsRow w.heap.size 81 6 (.slice (some ⟨p4, 0, none⟩) l.length q4) (l ++ m).length (flatG verC (l ++ m))) := by
    show World.ownsRow _ _ _ _ _ _ _
    rw [HM0.out, List.append_nil]; exact H4.out
  have d5 := d4
  clear HN1 H4 d4 hz4 HI HM0
  generalize w4 = w5 at *
  have hr := ownG_row verC_len H5.out
  have HK := Lib.hid (refRightV_any _ (l ++ m) w5 hr (by rw [List.length_append]; omega))
  have HRR : Hid (VOwn w.heap.size w5 _ (l ++ m)) := H5
  clear H5 hr
  cases hv : vright (l ++ m)
  · have HM := Lib.hid (putV_no hv)
    rw [hv] at HK
    clear hv
    go_wp2_with fail
    refine (HK.out).mono ?_
    rintro e w6 ⟨rfl, n6⟩
    go_wp2_with fail
    go_ret2
    refine ⟨⟨.slice none 0 0, ?_, ?_⟩, d5.trans (n6.mono d5.size)⟩
    · rw [HM.out]; rfl
    · rw [HM.out]; exact VOwn.nil _ _
  · have HM := Lib.hid (putV_ok hv)
    rw [hv] at HK
    clear hv
    go_wp2_with fail
    refine (HK.out).mono ?_
    rintro e w6 ⟨rfl, n6⟩
    go_wp2_with fail
    go_ret2
    refine ⟨⟨.slice (some ⟨p4, 0, none⟩) l.length q4, ?_, ?_⟩, d5.trans (n6.mono d5.size)⟩
    · rw [HM.out]; rfl
    · rw [HM.out]; exact VOwn.on HRR.out n6

set_option maxRecDepth 100000 in
set_option maxHeartbeats 4000000 in
theorem refPut_ns (a2 : Addr) (c1 c2 : Nat) (l m : List Ver) (w : World) (hl : l = []) (h2 : VRow w (.slice (some a2) m.length c2) m) (hn2 : m.length ≤ 1000) :
    Calls Try.prog 55 #[.slice none 0 c1, .slice (some a2) m.length c2] w fun e w' => (∃ v', e = .returned (.tuple #[v', .int .i64 (putV l m).2]) ∧ VOwn w.heap.size w' v' (putV l m).1) ∧ Below w.heap.size w w' := by
  obtain ⟨j0, hi, hz0, hz1, hz2⟩ := info40
  have HI := Lib.hid (And.intro hi (And.intro hz0 (And.intro hz1 hz2)))
  clear hi hz0 hz1 hz2
  have hn1 : l.length ≤ 1000 := by rw [hl]; simp
  have HN1 := Lib.hid (news_of h2 (aBelow w (Obj.cells #[] 81)))
  have HL0 := Lib.hid hl
  clear h2 hl
  go_enter Try.func55, Try.ntmps55
  go_wp2_with (first | (at_builtin; refine wpList_append_own _ rfl _ _ 57 rfl w.heap.size 81 j0 (.agg #[.int .i64 0, .int .i64 0, .int .i64 0, .bool false, .int .i64 0, .int .i64 0]) 6 48 Try.underlying57 HI.out.1 HI.out.2.1 HI.out.2.2.1 HI.out.2.2.2 rfl (by decide) _ _ _ rfl (World.ownsRow_made w #[] 0 (Nat.le_refl _) (Nat.zero_le _) (by simp)) a2 m.length c2 (flatG verC m) rfl (flatG_len verC_len m) HN1.out (flatG_cells1 verC_one m) (by unfold maxLen; omega) (by omega) (by simp) ?_; intro v5 w5 hown5 hgrow5 hnil5; have H5 := Lib.hid (show w5.ownsRow w.heap.size 81 6 v5 (l ++ m).length (flatG verC (l ++ m)) from (by rw [HL0.out, List.nil_append]; simpa using hown5)); have d5 : Below w.heap.size w w5 := ((Below.refl _ _).alloc (Nat.le_refl _) _).grown hgrow5 (by simp) (fun k hk => by cases hk; exact Nat.le_refl _); clear hown5 hgrow5 hnil5))
  clear HN1 HI HL0
  have hr := ownG_row verC_len H5.out
  have HK := Lib.hid (refRightV_any _ (l ++ m) w5 hr (by rw [List.length_append]; omega))
  have HRR : Hid (VOwn w.heap.size w5 _ (l ++ m)) := H5
  obtain ⟨p5, q5, rfl, -, -⟩ := hr
  clear H5
  cases hv : vright (l ++ m)
  · have HM := Lib.hid (putV_no hv)
    rw [hv] at HK
    clear hv
    go_wp2_with fail
    refine (HK.out).mono ?_
    rintro e w6 ⟨rfl, n6⟩
    go_wp2_with fail
    go_ret2
    refine ⟨⟨.slice none 0 0, ?_, ?_⟩, d5.trans (n6.mono d5.size)⟩
    · rw [HM.out]; rfl
    · rw [HM.out]; exact VOwn.nil _ _
  · have HM := Lib.hid (putV_ok hv)
    rw [hv] at HK
    clear hv
    go_wp2_with fail
    refine (HK.out).mono ?_
    rintro e w6 ⟨rfl, n6⟩
    go_wp2_with fail
    go_ret2
    refine ⟨⟨.slice p5 (l.length + m.length) q5, ?_, ?_⟩, d5.trans (n6.mono d5.size)⟩
    · rw [HM.out]; rfl
    · rw [HM.out, ← List.length_append]; exact VOwn.on HRR.out n6

set_option maxRecDepth 100000 in
set_option maxHeartbeats 4000000 in
theorem refPut_nn (c1 c2 : Nat) (l m : List Ver) (w : World) (hl : l = []) (hm : m = []) :
    Calls Try.prog 55 #[.slice none 0 c1, .slice none 0 c2] w fun e w' => (∃ v', e = .returned (.tuple #[v', .int .i64 (putV l m).2]) ∧ VOwn w.heap.size w' v' (putV l m).1) ∧ Below w.heap.size w w' := by
  have HM : putV l m = ([], 0) := by rw [hl, hm]; rfl
  rw [HM]
  go_enter Try.func55, Try.ntmps55
  go_wp2_with fail
  have hr : VRow (w.alloc (Obj.cells #[] 81)) (.slice (some ⟨w.heap.size, 0, none⟩) 0 0) [] := ⟨_, 0, rfl, Nat.le_refl _, fun h => absurd rfl h⟩
  have d5 := aBelow w (Obj.cells #[] 81)
  refine (refRightV_any _ [] _ hr (by simp)).mono ?_
  rintro e w6 ⟨rfl, n6⟩
  have ho : VOwn w.heap.size (w.alloc (Obj.cells #[] 81)) (.slice (some ⟨w.heap.size, 0, none⟩) 0 0) [] := World.ownsRow_made w #[] 0 (Nat.le_refl _) (Nat.zero_le _) (by simp)
  have HR := Lib.hid (ho.on n6)
  have hv : vright [] = true := rfl
  rw [hv]
  go_wp2_with fail
  go_ret2
  exact ⟨⟨_, rfl, HR.out⟩, d5.trans (n6.mono d5.size)⟩

/-- A slice is nil, or it has an address. -/
theorem vrow_cases {w : World} {v : Value} {l : List Ver} (h : VRow w v l) : (∃ c, v = .slice none 0 c ∧ l = []) ∨ ∃ ad c, v = .slice (some ad) l.length c := by
  obtain ⟨a, c, hv, hc, hl⟩ := h
  cases a with
  | none =>
    have hl0 : l = [] := by
      rcases l with _ | ⟨x, t⟩
      · rfl
      · obtain ⟨b, o, e, _⟩ := hl (by simp); cases e
    exact Or.inl ⟨c, by rw [hv, hl0]; rfl, hl0⟩
  | some ad => exact Or.inr ⟨ad, c, hv⟩
theorem refPut_any (v1 v2 : Value) (l m : List Ver) (w : World) (h1 : VRow w v1 l) (h2 : VRow w v2 m) (hn1 : l.length ≤ 1000) (hn2 : m.length ≤ 1000) :
    Calls Try.prog 55 #[v1, v2] w fun e w' => (∃ v', e = .returned (.tuple #[v', .int .i64 (putV l m).2]) ∧ VOwn w.heap.size w' v' (putV l m).1) ∧ Below w.heap.size w w' := by
  rcases vrow_cases h1 with ⟨c1, e1, hl⟩ | ⟨a1, c1, e1⟩
  · rcases vrow_cases h2 with ⟨c2, e2, hm⟩ | ⟨a2, c2, e2⟩
    · rw [e1, e2]; exact refPut_nn c1 c2 l m w hl hm
    · rw [e2] at h2; rw [e1, e2]; exact refPut_ns a2 c1 c2 l m w hl h2 hn2
  · rcases vrow_cases h2 with ⟨c2, e2, hm⟩ | ⟨a2, c2, e2⟩
    · rw [e1] at h1; rw [e1, e2]; exact refPut_sn a1 c1 c2 l m w h1 hm hn1
    · rw [e1] at h1; rw [e2] at h2; rw [e1, e2]; exact refPut_ss a1 a2 c1 c2 l m w h1 h2 hn1 hn2

end Go.Proofs.Ythiofbohllmfbaa.Ch
