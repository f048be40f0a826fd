/- What lies behind the arguments that came in: an int64's and an int's bounds, pins, a pin by value. -/
import Derived.Test.YtigkpfdbbifcgaaRows
import Derived.Test.YtigkpfdbbifcgaaV15
import Derived.ProofKit
import Derived.OpenShut
import Derived.SizedLaws
import Derived.Lib.SmallJoins
import Derived.Deep.SlicePairs
import Derived.ChangeMaps5
namespace Go.Proofs.Ytigkpfdbbifcgaa
open Go Go.ChangeShapes Go.WideShapes Go.ChangeAt Go.RowKit Go.Joins Go.Deep Pj

theorem own : ownKnob Try.prog.godebug = none := by kernel_rfl
theorem laidOut : laidOutB Try.prog = true := by kernel_rfl
theorem cells2 : Try.prog.cellsOf 2 = 1 := by kernel_rfl
theorem cells3 : Try.prog.cellsOf 3 = 1 := by kernel_rfl
theorem cellsP : Try.prog.cellsOf 35 = 2 := by kernel_rfl
theorem int_bounds {a : Int} (h : (Lit.int .i64 a).wf = true) : ok64 a := by
  have h' : (decide (IntKind.i64.min ≤ a) && decide (a ≤ IntKind.i64.max)) = true := h
  rw [Bool.and_eq_true, decide_eq_true_eq, decide_eq_true_eq] at h'
  exact h'
set_option maxRecDepth 100000 in
theorem open_structs {H β : Type} [Inhabited β] {enc : TypeId × Value → H} {W : World} {ts e : TypeId} {k : Nat} {encB : β → List Value} {okB : β → Prop} (hk : ∀ x, (encB x).length = k) (h0 : 0 < k) (hu : Try.prog.underlying ts = some (.slice e)) (hc0 : Try.prog.cellsOf e = k)
    (hone : ∀ {fuel : Nat} {cs : List Value} {x : DataW H × List MemPlace}, DataW.trod enc Try.prog W 0 (fun _ => true) true fuel e cs = some x → ∃ r, cs = encB r ∧ okB r)
    {a0 : Option Addr} {len cap : Nat} {d : DataW H} {p : List MemPlace} (h : DataW.Trod enc Try.prog W 0 (fun _ => true) true ts (.slice a0 len cap) d p) :
    (a0 = none ∧ len = 0 ∧ cap = 0) ∨ ∃ a l, a0 = some a ∧ len = l.length ∧ GRow encB k W (.slice (some a) l.length cap) l ∧ ∀ r ∈ l, okB r := by
  obtain ⟨fuel, hf⟩ := h
  rcases open_slice hu hf with ⟨hc, _⟩ | ⟨a, len', cap', m, n, _, Pl, hc, _, hl, _, hmm, _, hall⟩
  · left
    simp [Value.cells] at hc
    exact hc
  · right
    simp [Value.cells] at hc
    obtain ⟨rfl, rfl, rfl⟩ := hc
    have hm' : m = cap := by simpa using hmm
    subst hm'
    have hN : ∀ i, i < len → ∃ x : β, (∀ j u, (encB x)[j]? = some u → W.cell? (a.add (i * k + j)) = some u) ∧ okB x := by
      intro i hi
      obtain ⟨cs', h1, h2⟩ := hall i (by omega)
      rw [hc0] at h1
      obtain ⟨_, hlen, hcell⟩ := World.cells?_some h1
      obtain ⟨r, hr, hok⟩ := hone h2
      subst hr
      refine ⟨r, fun j u hu => ?_, hok⟩
      have hj : j < k := by rw [← hk r]; exact (List.getElem?_eq_some_iff.1 hu).1
      have e0 := hcell j hj
      rw [add_add] at e0
      rw [e0]
      exact hu
    obtain ⟨f, hfx⟩ := choose_lt hN
    refine ⟨a, (List.range len).map f, rfl, by simp, ?_, ?_⟩
    · refine ⟨some a, m, rfl, by simpa using hl, fun hne => ?_⟩
      have hp : 0 < len := by
        rcases Nat.eq_zero_or_pos len with h0 | h0
        · subst h0; exact absurd rfl hne
        · exact h0
      have hl0 : 0 < (encB (f 0)).length := by rw [hk]; exact h0
      have c0 := (hfx 0 hp).1 0 _ (List.getElem?_eq_getElem hl0)
      obtain ⟨b, off, spot⟩ := a
      have hspot : spot = none := by simpa [Addr.add] using World.cell?_spot c0
      subst hspot
      refine ⟨b, off, rfl, ?_, ?_⟩
      · have := World.block_lt_of_cell? _ _ c0
        rw [Go.WideShapes.add_plain] at this
        exact this
      · intro i hi j u hu
        have hi' : i < len := by simpa using hi
        simp only [List.getElem_map, List.getElem_range] at hu
        have := (hfx i hi').1 j u hu
        rw [Go.WideShapes.add_plain, ← Nat.add_assoc] at this
        exact this
    · intro r hr
      obtain ⟨i, hi, rfl⟩ := List.mem_map.1 hr
      exact (hfx i (List.mem_range.1 hi)).2



instance : Inhabited Pn := ⟨⟨0, 0⟩⟩
set_option maxRecDepth 100000 in
theorem trod_pn {H : Type} {enc : TypeId × Value → H} {W : World} {fuel : Nat} {cs : List Value} {x : DataW H × List MemPlace}
    (h : DataW.trod enc Try.prog W 0 (fun _ => true) true fuel 35 cs = some x) : ∃ r : Pn, cs = pC r ∧ okP r := by
  obtain ⟨xs, n, _, _, hlen, hxl, hfd⟩ := DataW.trod_struct Try.underlying35 h
  rw [cellsP] at hlen
  match xs, hxl, cs, hlen with
  | [y0, y1], _, [v0, v1], _ =>
    have g0 := hfd 0 _ rfl
    have g1 := hfd 1 _ rfl
    simp [cells2, cells3] at g0 g1
    obtain ⟨s0, q0, _, w0⟩ := DataW.trod_int Try.underlying3 g0
    obtain ⟨s1, q1, _, w1⟩ := DataW.trod_int Try.underlying2 g1
    simp at q0 q1
    subst q0 q1
    exact ⟨⟨s0, s1⟩, rfl, int_bounds w0, int_bounds w1⟩
set_option maxRecDepth 100000 in
/-- A slice of pins. -/
theorem pins_in {H : Type} {enc : TypeId × Value → H} {W : World} {b0 : Nat} {v : Value} {d : DataW H} {p : List MemPlace}
    (hv : Value.okWide Try.prog W .any b0 22 v) (h : DataW.Trod enc Try.prog W 0 (fun _ => true) true 22 v d p) :
    ∃ (a : Option Addr) (c : Nat) (l : List Pn), v = .slice a l.length c ∧ PRow W (.slice a l.length c) l ∧ ∀ x ∈ l, okP x := by
  obtain ⟨a0, len, cap, rfl⟩ := okWide_slice Try.underlying22 hv
  rcases open_structs (encB := pC) (okB := okP) pC_len (by decide) Try.underlying22 cellsP (fun h => trod_pn h) h with ⟨rfl, rfl, rfl⟩ | ⟨a, l, rfl, rfl, hrow, hok⟩
  · exact ⟨none, 0, [], rfl, GRow.nil W, fun x hx => by cases hx⟩
  · exact ⟨some a, cap, l, rfl, hrow, hok⟩
set_option maxRecDepth 100000 in
/-- A pin by value. -/
theorem pin_in {H : Type} {enc : TypeId × Value → H} {W : World} {b0 : Nat} {v : Value} {d : DataW H} {p : List MemPlace}
    (hv : Value.okWide Try.prog W .any b0 35 v) (h : DataW.Trod enc Try.prog W 0 (fun _ => true) true 35 v d p) :
    ∃ x0 x1 : Int, v = .agg #[.int .i64 x0, .int .i64 x1] ∧ okP ⟨x0, x1⟩ := by
  obtain ⟨cs, rfl, hcs⟩ := okWide_struct Try.underlying35 hv
  obtain ⟨fuel, hf⟩ := h
  obtain ⟨r, hr, ok⟩ := trod_pn hf
  obtain ⟨csl⟩ := cs
  simp [Value.cells, pC] at hr
  subst hr
  exact ⟨r.id, r.st, rfl, ok⟩
end Go.Proofs.Ytigkpfdbbifcgaa
