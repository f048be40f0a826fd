/- Proved: the law PinBack of pins answers true for every slice of pins, nil too, and every pin, and leaves its arguments as they were. Conditions: none (no package variable is named or listed). -/
import Derived.Test.YtigkpfdbbifcgaaRows
import Derived.Test.YtigkpfdbbifcgaaXF15
import Derived.Test.YtigkpfdbbifcgaaAL15
import Derived.Test.YtigkpfdbbifcgaaOC15
import Derived.Test.YtigkpfdbbifcgaaLD15
namespace Go.Proofs.Ytigkpfdbbifcgaa
open Go Go.ChangeShapes Go.WideShapes Go.ChangeAt Go.RowKit Go.Joins

set_option maxRecDepth 100000 in
theorem pinBack_lifted (os : Os) (started : os.Started) (H : Type) (enc : TypeId × Value → H) :
    ReturnsInHanded {} Try.checked os 6 .any (Rows.pinBackSpec.pre6 enc Try.prog Try.f6 Rows.pinBackRow.domain false) (Rows.pinBackSpec.post enc Try.prog Try.f6 false true false false) := by
  refine returnsInHanded_of_change (C := Try.checked) own started (by kernel_rfl) Try.func6
    (ChangeSpec.witness6 (enc := enc) (C := Try.checked) false ⟨#[], #[.slice none 0 0, .agg #[.int .i64 0, .int .i64 0]], []⟩ 8 (by kernel_rfl) (by kernel_rfl) (by kernel_rfl) (by kernel_rfl)) ?_
  intro W base args ds gs before hval0 hW _ _
  have hval : ∀ (j : Nat) t v, Try.f6.params[j]? = some t → args[j]? = some v → Value.okWide Try.prog W .any base t v := hval0
  have hW' := hW
  obtain ⟨p, q, hA0, hV, rfl, hfz, hnd⟩ := hW
  have hA : DataW.TrodAll enc Try.prog W 0 (fun _ => true) true Try.f6.params.toList args.toList ds p := hA0
  rw [Try.params6] at hA hval
  obtain ⟨v0, v1, d0, d1, p0, p1, rfl, rfl, rfl, h0, h1⟩ := trodAll_two hA
  obtain ⟨rfl, rfl⟩ := trodVars_none hV
  obtain ⟨a0, c0, l0, hv0, r0, o0⟩ := pins_in (hval 0 22 v0 rfl rfl) h0
  obtain ⟨x1, y1, hv1, o1⟩ := pin_in (hval 1 35 v1 rfl rfl) h1
  subst hv0
  subst hv1
  clear hA0 hval0
  simp only [List.append_nil] at hW'
  have hlt0 : ∀ x ∈ p0, x.block < W.heap.size := fun x hx => by simpa using hW'.lt x (by simp [hx])
  have hlt1 : ∀ x ∈ p1, x.block < W.heap.size := fun x hx => by simpa using hW'.lt x (by simp [hx])
  have fin : ∀ e W', (e : Ending) = .returned (.bool true) ∧ Below W.heap.size W W' → ∃ v, e = .returned v ∧ Rows.pinBackSpec.post enc Try.prog Try.f6 false true false false W #[.slice a0 l0.length c0, .agg #[.int .i64 x1, .int .i64 y1]] v W' := by
    rintro e W' ⟨rfl, hnx⟩
    refine ⟨_, rfl, _, _, _, [], p0 ++ p1, [], hW', ?_, ?_, rfl, hnx.frame _, fun h => by cases h⟩
    · exact trodAll_mk1 (shut_bool Try.underlying4 _)
    · exact trodAll_mk2 (Below.trod laidOut (by kernel_rfl) (of_decide_eq_true (by kernel_rfl)) h0 hnx hlt0) (Below.trod laidOut (by kernel_rfl) (of_decide_eq_true (by kernel_rfl)) h1 hnx hlt1)
  exact (Pj.back_walk Pj.own15 (Pj.alive_any Pj.own15) _ l0 x1 y1 W r0 o0 o1).mono fun e W' h => fin e W' h

theorem pinBack_holds : Rows.PinBackSaid :=
  OpenClaim.holds_of_wide 6 Try.f6 rfl rfl rfl rfl rfl rfl rfl ⟨rfl, rfl, rfl, rfl, rfl⟩ rfl rfl rfl rfl rfl (by kernel_rfl) Try.func6 (by kernel_rfl)
    (of_decide_eq_true (by kernel_rfl)) (by unfold Func.isWrapper; rw [if_neg (of_decide_eq_false (by kernel_rfl))]; exact ⟨rfl, rfl⟩)
    (fun os started H enc _ => pinBack_lifted os started H enc)
#print axioms pinBack_holds
end Go.Proofs.Ytigkpfdbbifcgaa
