/- Walks of seq: the document's Push and Pop. -/
import Derived.Test.YtmgfgfkkhcibcaaW14
namespace Go.Proofs.Ytmgfgfkkhcibcaa.Se
open Go Go.RowKit

set_option maxRecDepth 100000 in
theorem infoW : ∃ i, Try.prog.info? 29 = some i ∧ i.zero = some (.agg #[.int .i64 0, .int .i64 0, .string ⟨#[]⟩, .int .i64 0]) ∧ i.size = 4 ∧ i.bytes = 40 := ⟨_, rfl, rfl, rfl, rfl⟩
theorem own_slice {w : World} {base : Nat} {e : TypeId} {size : Nat} {v : Value} {n : Nat} {xs : List Value} (h : w.ownsRow base e size v n xs) : ∃ a c, v = .slice a n c ∧ n ≤ c := by
  rcases h.2 with ⟨rfl, h0⟩ | ⟨g, cap, cur, hv, _, _, hc, _⟩
  · exact ⟨none, 0, by rw [h0], by omega⟩
  · exact ⟨_, cap, hv, hc⟩

set_option maxRecDepth 100000 in
set_option maxHeartbeats 4000000 in
theorem refPush_any (v1 v2 : Value) (q m : List Wr) (w : World) (h1 : WRow w v1 q) (h2 : WRow w v2 m) (hq : q.length ≤ 1000) (hm : m.length ≤ 1000) :
    Calls Try.prog 9 #[v1, v2] w fun e w' => (∃ v', e = .returned (.tuple #[v', .int .i64 (pushQ q m).2]) ∧ WRow w' v' (pushQ q m).1) ∧ Below w.heap.size w w' := by
  obtain ⟨j0, hi, hz0, hz1, hz2⟩ := infoW
  have HI := Lib.hid (And.intro hi (And.intro hz0 (And.intro hz1 hz2)))
  clear hi hz0 hz1 hz2
  have HR := Lib.hid (fun v W (h : WRow W v (q ++ m)) => refRight_any v (q ++ m) W h (by rw [List.length_append]; omega))
  have HP : pushQ q m = if rightQ (q ++ m) then (q ++ m, 0) else ([], 9) := rfl
  rw [HP]
  clear HP
  generalize rightQ (q ++ m) = R at *
  obtain ⟨a1, c1, rfl, hc1, hl1⟩ := h1
  obtain ⟨a2, c2, rfl, hc2, hl2⟩ := h2
  have dA := Lib.hid (aBelow w (.cells #[] 29))
  have HN1 := Lib.hid (gat_news wC_len (by decide) (hl1.on dA.out))
  have HG1 := Lib.hid (gat_none hl1)
  have HL2 := Lib.hid hl2
  have HM0 := Lib.hid (World.ownsRow_made (base := w.heap.size) (e := 29) (size := 4) w #[] 0 (Nat.le_refl _) (Nat.zero_le _) (by simp))
  clear hl1 hl2
  go_enter Try.func9, Try.ntmps9
  go_wp2_with (first
    | (at_builtin; refine wpList_append_any rfl _ _ 22 rfl w.heap.size 29 j0 (.agg #[.int .i64 0, .int .i64 0, .string ⟨#[]⟩, .int .i64 0]) 4 40 Try.underlying22 HI.out.1 HI.out.2.1 HI.out.2.2.1 HI.out.2.2.2 rfl (by decide) _ _ _ rfl HO5.out a2 m.length c2 (flatG wC m) rfl (flatG_len wC_len m) HG2.out HN2.out (flatG_cells1 wC_one m) (by unfold maxLen; omega) (by omega) D3.out.size ?_
       intro v6 w4 hown6 hgrow6 hnil6
       have HV6 := Lib.hid (show WRow w4 v6 (q ++ m) from ownG_row wC_len (own_more rfl hown6))
       obtain ⟨a6, c6, hv6, hc6⟩ := own_slice hown6
       subst hv6)
    | (at_builtin; refine wpList_append_any rfl _ _ 22 rfl w.heap.size 29 j0 (.agg #[.int .i64 0, .int .i64 0, .string ⟨#[]⟩, .int .i64 0]) 4 40 Try.underlying22 HI.out.1 HI.out.2.1 HI.out.2.2.1 HI.out.2.2.2 rfl (by decide) _ _ _ rfl HM0.out a1 q.length c1 (flatG wC q) rfl (flatG_len wC_len q) HG1.out HN1.out (flatG_cells1 wC_one q) (by unfold maxLen; omega) (by omega) (by simp) ?_
       intro v5 w3 hown5 hgrow5 hnil5
       have D3 := Lib.hid ((dA.out).grown hgrow5 (by simp) (fun j hj => by cases hj; exact Nat.le_refl _))
       have HO5 : Hid (w3.ownsRow w.heap.size 29 4 v5 q.length (flatG wC q)) := Lib.hid (by simpa using hown5)
       clear hown5 hgrow5 hnil5 HN1 HG1 HM0 dA
       have HL3 := Lib.hid (HL2.out.on D3.out)
       have HN2 := Lib.hid (gat_news wC_len (by decide) HL3.out)
       have HG2 := Lib.hid (gat_none HL3.out)
       clear HL2 HL3))
  have D4 := Lib.hid (own_grew D3.out D3.out.size HO5.out hgrow6)
  clear hown6 hgrow6 hnil6 HO5 HN2 HG2 D3
  have HR6 := Lib.hid (HR.out _ w4 HV6.out)
  clear HR
  refine HR6.out.mono ?_
  rintro e w5 ⟨rfl, n5⟩
  have D5 := Lib.hid (D4.out.trans (n5.mono D4.out.size))
  have HV7 := Lib.hid (HV6.out.on n5)
  clear n5 D4 HV6 HR6
  clear HI
  cases R
  · go_wp2_with fail
    exact bodyPost_ret (v := .tuple #[.slice none 0 0, .int .i64 9]) (by simp [results, Try.results9, go_sem]) rfl ⟨⟨_, rfl, GRow.nil _⟩, D5.out⟩
  · go_wp2_with fail
    exact bodyPost_ret (v := .tuple #[.slice a6 (q.length + m.length) c6, .int .i64 0]) (by simp [results, Try.results9, go_sem]) rfl ⟨⟨_, rfl, HV7.out⟩, D5.out⟩
end Go.Proofs.Ytmgfgfkkhcibcaa.Se
