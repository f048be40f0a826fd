/- What lies behind the arguments that came in: numbers, two, three of them. -/
import Derived.Test.YtchlndcdfaelmaaRows
import Derived.Test.YtchlndcdfaelmaaM13
import Derived.ProofKit
import Derived.OpenShut
import Derived.Lib.SmallJoins
import Derived.Deep.SlicePairs
namespace Go.Proofs.Ytchlndcdfaelmaa
open Go Go.ChangeShapes Go.WideShapes Go.ChangeAt Go.RowKit Go.Joins Go.Deep Wi

theorem own : ownKnob Try.prog.godebug = none := by kernel_rfl
theorem laidOut : laidOutB Try.prog = true := by kernel_rfl
theorem cells2 : Try.prog.cellsOf 2 = 1 := by kernel_rfl
theorem cells22 : Try.prog.cellsOf 22 = 2 := by kernel_rfl
theorem cells31 : Try.prog.cellsOf 31 = 3 := by kernel_rfl
theorem int_bounds {a : Int} (h : (Lit.int .i64 a).wf = true) : ok64 a := by
  have h' : (decide (IntKind.i64.min ≤ a) && decide (a ≤ IntKind.i64.max)) = true := h
  rw [Bool.and_eq_true, decide_eq_true_eq, decide_eq_true_eq] at h'
  exact h'
theorem okWide_arr {P : Program} {w : World} {r : Reach} {base : Nat} {t : TypeId} {v : Value} {n : Nat} {e : TypeId} (ht : P.underlying t = some (.array n e)) (h : Value.okWide P w r base t v) : ∃ cs, v = .agg cs ∧ cs.size = P.cellsOf t := by
  simp only [Value.okWide, ht] at h
  obtain ⟨cs, h1, h2, _⟩ := h
  exact ⟨cs, h1, h2⟩
set_option maxRecDepth 100000 in
theorem two_in {H : Type} {enc : TypeId × Value → H} {W : World} {b0 : Nat} {v : Value} {d : DataW H} {p : List MemPlace}
    (hv : Value.okWide Try.prog W .any b0 22 v) (h : DataW.Trod enc Try.prog W 0 (fun _ => true) true 22 v d p) :
    ∃ f0 f1 : Int, v = .agg #[.int .i64 f0, .int .i64 f1] ∧ ok64 f0 ∧ ok64 f1 := by
  obtain ⟨cs, rfl, hcs⟩ := okWide_arr Try.underlying22 hv
  obtain ⟨fuel, hf⟩ := h
  obtain ⟨xs, n, _, _, hlen, hxl, hfd⟩ := DataW.trod_array Try.underlying22 hf
  rw [cells22] at hcs
  obtain ⟨csl⟩ := cs
  simp only [List.size_toArray] at hcs
  match xs, hxl, csl, hcs with
  | [y0, y1], _, [v0, v1], _ =>
    have g0 := hfd 0 (by decide)
    have g1 := hfd 1 (by decide)
    simp [Value.cells, cells2] at g0 g1
    obtain ⟨s0, q0, _, w0⟩ := DataW.trod_int Try.underlying2 g0
    obtain ⟨s1, q1, _, w1⟩ := DataW.trod_int Try.underlying2 g1
    simp at q0 q1
    subst q0 q1
    exact ⟨s0, s1, rfl, int_bounds w0, int_bounds w1⟩
set_option maxRecDepth 100000 in
theorem three_in {H : Type} {enc : TypeId × Value → H} {W : World} {b0 : Nat} {v : Value} {d : DataW H} {p : List MemPlace}
    (hv : Value.okWide Try.prog W .any b0 31 v) (h : DataW.Trod enc Try.prog W 0 (fun _ => true) true 31 v d p) :
    ∃ f0 f1 f2 : Int, v = .agg #[.int .i64 f0, .int .i64 f1, .int .i64 f2] ∧ ok64 f0 ∧ ok64 f1 ∧ ok64 f2 := by
  obtain ⟨cs, rfl, hcs⟩ := okWide_arr Try.underlying31 hv
  obtain ⟨fuel, hf⟩ := h
  obtain ⟨xs, n, _, _, hlen, hxl, hfd⟩ := DataW.trod_array Try.underlying31 hf
  rw [cells31] at hcs
  obtain ⟨csl⟩ := cs
  simp only [List.size_toArray] at hcs
  match xs, hxl, csl, hcs with
  | [y0, y1, y2], _, [v0, v1, v2], _ =>
    have g0 := hfd 0 (by decide)
    have g1 := hfd 1 (by decide)
    have g2 := hfd 2 (by decide)
    simp [Value.cells, cells2] at g0 g1 g2
    obtain ⟨s0, q0, _, w0⟩ := DataW.trod_int Try.underlying2 g0
    obtain ⟨s1, q1, _, w1⟩ := DataW.trod_int Try.underlying2 g1
    obtain ⟨s2, q2, _, w2⟩ := DataW.trod_int Try.underlying2 g2
    simp at q0 q1 q2
    subst q0 q1 q2
    exact ⟨s0, s1, s2, rfl, int_bounds w0, int_bounds w1, int_bounds w2⟩
end Go.Proofs.Ytchlndcdfaelmaa
