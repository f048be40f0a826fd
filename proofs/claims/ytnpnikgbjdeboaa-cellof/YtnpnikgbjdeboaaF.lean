/- What lies behind the arguments that came in: an int64's bounds, a cell by value, slices of samples and of cells. -/
import Derived.Test.YtnpnikgbjdeboaaRows
import Derived.Test.YtnpnikgbjdeboaaC7
import Derived.ProofKit
import Derived.OpenShut
import Derived.SizedLaws
import Derived.Lib.SmallJoins
import Derived.Deep.SlicePairs
namespace Go.Proofs.Ytnpnikgbjdeboaa
open Go Go.ChangeShapes Go.WideShapes Go.ChangeAt Go.RowKit Go.Joins Go.Deep Cl

theorem own : ownKnob Try.prog.godebug = none := by kernel_rfl
theorem laidOut : laidOutB Try.prog = true := by kernel_rfl
theorem cells2 : Try.prog.cellsOf 2 = 1 := by kernel_rfl
theorem cells4 : Try.prog.cellsOf 4 = 1 := by kernel_rfl
theorem cells23 : Try.prog.cellsOf 23 = 2 := by kernel_rfl
theorem cells25 : Try.prog.cellsOf 25 = 5 := by kernel_rfl
theorem int_bounds {a : Int} (h : (Lit.int .i64 a).wf = true) : ok64 a := by
  have e1 : IntKind.i64.min = -9223372036854775808 := rfl
  have e2 : IntKind.i64.max = 9223372036854775807 := rfl
  simp [Lit.wf, e1, e2] at h
  exact ⟨by omega, by omega⟩

set_option maxRecDepth 100000 in
/-- A cell's five cells, as they are read. -/
theorem trod_cell {H : Type} {enc : TypeId × Value → H} {W : World} {base : Nat} {sp : Nat → Bool} {held : Bool} {fuel : Nat} {cs : List Value} {x : DataW H × List MemPlace}
    (h : DataW.trod enc Try.prog W base sp held fuel 25 cs = some x) :
    ∃ c : Cell, cs = [.int .i64 c.cnt, .int .i64 c.sn, .bool c.so, .int .i64 c.mn, .int .i64 c.mx] ∧ okC c := by
  obtain ⟨xs, n, _, _, hlen, hxl, hfd⟩ := DataW.trod_struct Try.underlying25 h
  rw [cells25] at hlen
  match xs, hxl, cs, hlen with
  | [y0, y1, y2, y3], _, [v0, v1, v2, v3, v4], _ =>
    have g0 := hfd 0 _ rfl
    have g1 := hfd 1 _ rfl
    have g2 := hfd 2 _ rfl
    have g3 := hfd 3 _ rfl
    simp [cells2, cells23] at g0 g1 g2 g3
    obtain ⟨s0, q0, _, w0⟩ := DataW.trod_int Try.underlying2 g0
    obtain ⟨s3, q3, _, w3⟩ := DataW.trod_int Try.underlying2 g2
    obtain ⟨s4, q4, _, w4⟩ := DataW.trod_int Try.underlying2 g3
    obtain ⟨zs, m, _, _, _, hzl, hfe⟩ := DataW.trod_struct Try.underlying23 g1
    match zs, hzl with
    | [z0, z1], _ =>
      have k0 := hfe 0 _ rfl
      have k1 := hfe 1 _ rfl
      simp [cells2, cells4] at k0 k1
      obtain ⟨s1, q1, _, w1⟩ := DataW.trod_int Try.underlying2 k0
      obtain ⟨s2, q2, _⟩ := DataW.trod_bool Try.underlying4 k1
      simp at q0 q1 q2 q3 q4
      subst q0 q1 q2 q3 q4
      exact ⟨⟨s0, s1, s2, s3, s4⟩, rfl, int_bounds w0, int_bounds w1, int_bounds w3, int_bounds w4⟩

/-- A cell by value. -/
theorem cell_in {H : Type} {enc : TypeId × Value → H} {W : World} {b0 : Nat} {v : Value} {d : DataW H} {p : List MemPlace}
    (hv : Value.okWide Try.prog W .any b0 25 v) (h : DataW.Trod enc Try.prog W 0 (fun _ => true) true 25 v d p) :
    ∃ c : Cell, v = .agg #[.int .i64 c.cnt, .int .i64 c.sn, .bool c.so, .int .i64 c.mn, .int .i64 c.mx] ∧ okC c := by
  obtain ⟨cs, rfl, _⟩ := okWide_struct Try.underlying25 hv
  obtain ⟨fuel, hf⟩ := h
  obtain ⟨c, hc, ok⟩ := trod_cell hf
  refine ⟨c, ?_, ok⟩
  simp [Value.cells] at hc
  rw [← hc]

set_option maxRecDepth 100000 in
/-- A slice of samples. -/
theorem ints_in {H : Type} {enc : TypeId × Value → H} {W : World} {b0 : Nat} {v : Value} {d : DataW H} {p : List MemPlace}
    (hv : Value.okWide Try.prog W .any b0 31 v) (h : DataW.Trod enc Try.prog W 0 (fun _ => true) true 31 v d p) :
    ∃ (a : Option Addr) (l : List Int) (c : Nat), v = .slice a l.length c ∧ IAt W a l ∧ l.length ≤ c ∧ (∀ x ∈ l, ok64 x) ∧ (a = none → l = [] ∧ c = 0) := by
  obtain ⟨a0, len, cap, rfl⟩ := okWide_slice Try.underlying31 hv
  obtain ⟨fuel, hf⟩ := h
  rcases open_slice Try.underlying31 hf with ⟨hc, _⟩ | ⟨a, len', cap', m, n, D, Pl, hc, _, hl, _, hmm, _, hall⟩
  · simp [Value.cells] at hc
    obtain ⟨rfl, rfl, rfl⟩ := hc
    exact ⟨none, [], 0, rfl, fun h => absurd rfl h, Nat.le_refl _, (fun x hx => by cases hx), fun _ => ⟨rfl, rfl⟩⟩
  · simp [Value.cells] at hc
    obtain ⟨rfl, rfl, rfl⟩ := hc
    have hm' : m = cap := by simpa using hmm
    subst hm'
    have hN : ∀ i, i < len → ∃ x : Int, W.cell? (a.add i) = some (.int .i64 x) ∧ ok64 x := by
      intro i hi
      obtain ⟨cs', h1, h2⟩ := hall i (by omega)
      rw [cells2] at h1
      obtain ⟨_, hlen, hcell⟩ := World.cells?_some h1
      obtain ⟨s, q, _, ws⟩ := DataW.trod_int Try.underlying2 h2
      subst q
      have e0 := hcell 0 (by omega)
      rw [add_add] at e0
      exact ⟨s, by simpa using e0, int_bounds ws⟩
    obtain ⟨f, hfx⟩ := choose_lt hN
    refine ⟨some a, (List.range len).map f, m, by simp, ?_, by simpa using hl, ?_, fun h => by cases h⟩
    · intro hne
      have hp : 0 < len := by
        rcases Nat.eq_zero_or_pos len with h0 | h0
        · subst h0; exact absurd rfl hne
        · exact h0
      obtain ⟨b, off, spot⟩ := a
      have hspot : spot = none := by simpa [Addr.add] using World.cell?_spot (hfx 0 hp).1
      subst hspot
      refine ⟨b, off, rfl, ?_, ?_⟩
      · have := World.block_lt_of_cell? _ _ (hfx 0 hp).1
        rw [Go.WideShapes.add_plain] at this
        exact this
      · intro i hi
        have hi' : i < len := by simpa using hi
        obtain ⟨h0, _⟩ := hfx i hi'
        rw [Go.WideShapes.add_plain] at h0
        simp only [List.getElem_map, List.getElem_range]
        exact h0
    · intro x hx
      simp only [List.mem_map, List.mem_range] at hx
      obtain ⟨i, hi, rfl⟩ := hx
      exact (hfx i hi).2

set_option maxRecDepth 100000 in
/-- A slice of cells. -/
theorem cells_in {H : Type} {enc : TypeId × Value → H} {W : World} {b0 : Nat} {v : Value} {d : DataW H} {p : List MemPlace}
    (hv : Value.okWide Try.prog W .any b0 35 v) (h : DataW.Trod enc Try.prog W 0 (fun _ => true) true 35 v d p) :
    ∃ (a : Option Addr) (l : List Cell) (c : Nat), v = .slice a l.length c ∧ CAt W a l ∧ (∀ x ∈ l, okC x) ∧ (a = none → l = [] ∧ c = 0) := by
  obtain ⟨a0, len, cap, rfl⟩ := okWide_slice Try.underlying35 hv
  obtain ⟨fuel, hf⟩ := h
  rcases open_slice Try.underlying35 hf with ⟨hc, _⟩ | ⟨a, len', cap', m, n, D, Pl, hc, _, hl, _, hmm, _, hall⟩
  · simp [Value.cells] at hc
    obtain ⟨rfl, rfl, rfl⟩ := hc
    exact ⟨none, [], 0, rfl, fun h => absurd rfl h, (fun x hx => by cases hx), fun _ => ⟨rfl, rfl⟩⟩
  · simp [Value.cells] at hc
    obtain ⟨rfl, rfl, rfl⟩ := hc
    have hm' : m = cap := by simpa using hmm
    subst hm'
    have hN : ∀ i, i < len → ∃ x : Cell, W.cell? (a.add (i * 5)) = some (.int .i64 x.cnt) ∧ W.cell? (a.add (i * 5 + 1)) = some (.int .i64 x.sn) ∧ W.cell? (a.add (i * 5 + 2)) = some (.bool x.so) ∧ W.cell? (a.add (i * 5 + 3)) = some (.int .i64 x.mn) ∧ W.cell? (a.add (i * 5 + 4)) = some (.int .i64 x.mx) ∧ okC x := by
      intro i hi
      obtain ⟨cs', h1, h2⟩ := hall i (by omega)
      rw [cells25] at h1
      obtain ⟨_, hlen, hcell⟩ := World.cells?_some h1
      obtain ⟨c, hc, ok⟩ := trod_cell h2
      subst hc
      have e0 := hcell 0 (by omega)
      have e1 := hcell 1 (by omega)
      have e2 := hcell 2 (by omega)
      have e3 := hcell 3 (by omega)
      have e4 := hcell 4 (by omega)
      rw [add_add] at e0 e1 e2 e3 e4
      exact ⟨c, by simpa using e0, by simpa using e1, by simpa using e2, by simpa using e3, by simpa using e4, ok⟩
    have : Inhabited Cell := ⟨zero⟩
    obtain ⟨f, hfx⟩ := choose_lt hN
    refine ⟨some a, (List.range len).map f, m, by simp, ?_, ?_, fun h => by cases h⟩
    · intro hne
      have hp : 0 < len := by
        rcases Nat.eq_zero_or_pos len with h0 | h0
        · subst h0; exact absurd rfl hne
        · exact h0
      obtain ⟨b, off, spot⟩ := a
      have hspot : spot = none := by simpa [Addr.add] using World.cell?_spot (hfx 0 hp).1
      subst hspot
      refine ⟨b, off, rfl, ?_, ?_⟩
      · have := World.block_lt_of_cell? _ _ (hfx 0 hp).1
        rw [Go.WideShapes.add_plain] at this
        exact this
      · intro i hi
        have hi' : i < len := by simpa using hi
        obtain ⟨h0, h1, h2, h3, h4, _⟩ := hfx i hi'
        rw [Go.WideShapes.add_plain] at h0 h1 h2 h3 h4
        simp only [List.getElem_map, List.getElem_range]
        exact ⟨h0, h1, h2, h3, h4⟩
    · intro x hx
      simp only [List.mem_map, List.mem_range] at hx
      obtain ⟨i, hi, rfl⟩ := hx
      exact (hfx i hi).2.2.2.2.2
end Go.Proofs.Ytnpnikgbjdeboaa
