/- Small facts for the rows' proofs: an int64's bounds, and how a sum by value is read again. -/
import Derived.Test.YtmmpcaboedjjdaaDoorE
namespace Go.Proofs.YtmmpcaboedjjdaaDoor
open Go Go.ChangeShapes Go.WideShapes Go.ChangeAt Go.RowKit Go.Joins

theorem int_bounds {a : Int} (h : (Lit.int .i64 a).wf = true) : -9223372036854775808 ≤ a ∧ a ≤ 9223372036854775807 := by
  have e1 : IntKind.i64.min = -9223372036854775808 := rfl
  have e2 : IntKind.i64.max = 9223372036854775807 := rfl
  simp [Lit.wf, e1, e2] at h
  omega

theorem sum_reads {H : Type} (enc : TypeId × Value → H) (W : World) (sp : Nat → Bool) (a : Int) (ao : Bool) (wa : (Lit.int .i64 a).wf = true) :
    DataW.Trod enc Tryd.prog W 0 sp true 23 (.agg #[.int .i64 a, .bool ao]) (.agg [.lit (.int .i64 a), .lit (.bool ao)]) [] :=
  shut_agg2 (y0 := (.lit (.int .i64 a), [])) (y1 := (.lit (.bool ao), [])) Tryd.underlying23 (by kernel_rfl) cells23 ⟨1, by simp [DataW.trod, Tryd.underlying2, wa]⟩ ⟨1, by simp [DataW.trod, Tryd.underlying4]⟩
end Go.Proofs.YtmmpcaboedjjdaaDoor
