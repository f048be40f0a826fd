/- Proved: the law PinFloors of pins answers true for every stamp, every slice of pins, nil too, and every pin, and leaves its arguments as they were. Conditions: none (no package variable is named or listed). -/
import Derived.Test.YtigkpfdbbifcgaaRows
import Derived.Test.YtigkpfdbbifcgaaXF15
import Derived.Test.YtigkpfdbbifcgaaAL15
import Derived.Test.YtigkpfdbbifcgaaOC15
import Derived.Test.YtigkpfdbbifcgaaLC15
namespace Go.Proofs.Ytigkpfdbbifcgaa
open Go Go.ChangeShapes Go.WideShapes Go.ChangeAt Go.RowKit Go.Joins

set_option maxRecDepth 100000 in
theorem pinFloors_lifted (os : Os) (started : os.Started) (H : Type) (enc : TypeId × Value → H) :
    ReturnsInHanded {} Try.checked os 5 .any (Rows.pinFloorsSpec.pre6 enc Try.prog Try.f5 Rows.pinFloorsRow.domain false) (Rows.pinFloorsSpec.post enc Try.prog Try.f5 false true false false) := by
  refine returnsInHanded_of_change (C := Try.checked) own started (by kernel_rfl) Try.func5
    (ChangeSpec.witness6 (enc := enc) (C := Try.checked) false ⟨#[], #[.int .i64 0, .slice none 0 0, .agg #[.int .i64 0, .int .i64 0]], []⟩ 8 (by kernel_rfl) (by kernel_rfl) (by kernel_rfl) (by kernel_rfl)) ?_
  intro W base args ds gs before hval0 hW _ _
  have hval : ∀ (j : Nat) t v, Try.f5.params[j]? = some t → args[j]? = some v → Value.okWide Try.prog W .any base t v := hval0
  have hW' := hW
  obtain ⟨p, q, hA0, hV, rfl, hfz, hnd⟩ := hW
  have hA : DataW.TrodAll enc Try.prog W 0 (fun _ => true) true Try.f5.params.toList args.toList ds p := hA0
  rw [Try.params5] at hA hval
  obtain ⟨v0, v1, v2, d0, d1, d2, p0, p1, p2, rfl, rfl, rfl, h0, h1, h2⟩ := trodAll_three hA
  obtain ⟨rfl, rfl⟩ := trodVars_none hV
  obtain ⟨s0, rfl, rfl, rfl, w0⟩ := open_int Try.underlying2 (hval 0 2 v0 rfl rfl) h0
  obtain ⟨a1, c1, l1, hv1, r1, o1⟩ := pins_in (hval 1 22 v1 rfl rfl) h1
  obtain ⟨x2, y2, hv2, o2⟩ := pin_in (hval 2 35 v2 rfl rfl) h2
  subst hv1
  subst hv2
  clear hA0 hval0
  simp only [List.append_nil, List.nil_append] at hW'
  have hlt1 : ∀ x ∈ p1, x.block < W.heap.size := fun x hx => by simpa using hW'.lt x (by simp [hx])
  have hlt2 : ∀ x ∈ p2, x.block < W.heap.size := fun x hx => by simpa using hW'.lt x (by simp [hx])
  have fin : ∀ e W', (e : Ending) = .returned (.bool true) ∧ Below W.heap.size W W' → ∃ v, e = .returned v ∧ Rows.pinFloorsSpec.post enc Try.prog Try.f5 false true false false W #[.int .i64 s0, .slice a1 l1.length c1, .agg #[.int .i64 x2, .int .i64 y2]] v W' := by
    rintro e W' ⟨rfl, hnx⟩
    refine ⟨_, rfl, _, _, _, [], [] ++ (p1 ++ p2), [], hW', ?_, ?_, rfl, hnx.frame _, fun h => by cases h⟩
    · exact trodAll_mk1 (shut_bool Try.underlying4 _)
    · exact trodAll_mk3 (shut_int Try.underlying2 w0) (Below.trod laidOut (by kernel_rfl) (of_decide_eq_true (by kernel_rfl)) h1 hnx hlt1) (Below.trod laidOut (by kernel_rfl) (of_decide_eq_true (by kernel_rfl)) h2 hnx hlt2)
  exact (Pj.floors_walk Pj.own15 (Pj.alive_any Pj.own15) s0 _ l1 x2 y2 W r1 o1 o2 (int_bounds w0)).mono fun e W' h => fin e W' h

theorem pinFloors_holds : Rows.PinFloorsSaid :=
  OpenClaim.holds_of_wide 5 Try.f5 rfl rfl rfl rfl rfl rfl rfl ⟨rfl, rfl, rfl, rfl, rfl⟩ rfl rfl rfl rfl rfl (by kernel_rfl) Try.func5 (by kernel_rfl)
    (of_decide_eq_true (by kernel_rfl)) (by unfold Func.isWrapper; rw [if_neg (of_decide_eq_false (by kernel_rfl))]; exact ⟨rfl, rfl⟩)
    (fun os started H enc _ => pinFloors_lifted os started H enc)
#print axioms pinFloors_holds
end Go.Proofs.Ytigkpfdbbifcgaa
