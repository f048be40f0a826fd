/- What lies behind the arguments that came in: an int64's bounds, a version by value, slices of versions and of samples. -/
import Derived.Test.YthiofbohllmfbaaRows
import Derived.Test.YthiofbohllmfbaaV5
import Derived.ProofKit
import Derived.OpenShut
import Derived.SizedLaws
import Derived.Lib.SmallJoins
import Derived.Deep.SlicePairs
namespace Go.Proofs.Ythiofbohllmfbaa
open Go Go.ChangeShapes Go.WideShapes Go.ChangeAt Go.RowKit Go.Joins Go.Deep Cl Ce

theorem own : ownKnob Try.prog.godebug = none := by kernel_rfl
theorem laidOut : laidOutB Try.prog = true := by kernel_rfl
theorem cells2 : Try.prog.cellsOf 2 = 1 := by kernel_rfl
theorem cells4 : Try.prog.cellsOf 4 = 1 := by kernel_rfl
theorem cells26 : Try.prog.cellsOf 50 = 2 := by kernel_rfl
theorem cells28 : Try.prog.cellsOf 52 = 5 := by kernel_rfl
theorem cells40 : Try.prog.cellsOf 81 = 6 := by kernel_rfl
theorem int_bounds {a : Int} (h : (Lit.int .i64 a).wf = true) : ok64 a := by
  have e1 : IntKind.i64.min = -9223372036854775808 := rfl
  have e2 : IntKind.i64.max = 9223372036854775807 := rfl
  simp [Lit.wf, e1, e2] at h
  exact ⟨by omega, by omega⟩

set_option maxRecDepth 100000 in
/-- A cell's five cells, as they are read. -/
theorem trod_cell {H : Type} {enc : TypeId × Value → H} {W : World} {base : Nat} {sp : Nat → Bool} {held : Bool} {fuel : Nat} {cs : List Value} {x : DataW H × List MemPlace}
    (h : DataW.trod enc Try.prog W base sp held fuel 52 cs = some x) :
    ∃ c : Cell, cs = [.int .i64 c.cnt, .int .i64 c.sn, .bool c.so, .int .i64 c.mn, .int .i64 c.mx] ∧ okC c := by
  obtain ⟨xs, n, _, _, hlen, hxl, hfd⟩ := DataW.trod_struct Try.underlying52 h
  rw [cells28] at hlen
  match xs, hxl, cs, hlen with
  | [y0, y1, y2, y3], _, [v0, v1, v2, v3, v4], _ =>
    have g0 := hfd 0 _ rfl
    have g1 := hfd 1 _ rfl
    have g2 := hfd 2 _ rfl
    have g3 := hfd 3 _ rfl
    simp [cells2, cells26] at g0 g1 g2 g3
    obtain ⟨s0, q0, _, w0⟩ := DataW.trod_int Try.underlying2 g0
    obtain ⟨s3, q3, _, w3⟩ := DataW.trod_int Try.underlying2 g2
    obtain ⟨s4, q4, _, w4⟩ := DataW.trod_int Try.underlying2 g3
    obtain ⟨zs, m, _, _, _, hzl, hfe⟩ := DataW.trod_struct Try.underlying50 g1
    match zs, hzl with
    | [z0, z1], _ =>
      have k0 := hfe 0 _ rfl
      have k1 := hfe 1 _ rfl
      simp [cells2, cells4] at k0 k1
      obtain ⟨s1, q1, _, w1⟩ := DataW.trod_int Try.underlying2 k0
      obtain ⟨s2, q2, _⟩ := DataW.trod_bool Try.underlying4 k1
      simp at q0 q1 q2 q3 q4
      subst q0 q1 q2 q3 q4
      exact ⟨⟨s0, s1, s2, s3, s4⟩, rfl, int_bounds w0, int_bounds w1, int_bounds w3, int_bounds w4⟩

set_option maxRecDepth 100000 in
/-- A cell by value. -/
theorem cell_in {H : Type} {enc : TypeId × Value → H} {W : World} {b0 : Nat} {v : Value} {d : DataW H} {p : List MemPlace}
    (hv : Value.okWide Try.prog W .any b0 52 v) (h : DataW.Trod enc Try.prog W 0 (fun _ => true) true 52 v d p) :
    ∃ c : Cell, v = .agg #[.int .i64 c.cnt, .int .i64 c.sn, .bool c.so, .int .i64 c.mn, .int .i64 c.mx] ∧ okC c := by
  obtain ⟨cs, rfl, _⟩ := okWide_struct Try.underlying52 hv
  obtain ⟨fuel, hf⟩ := h
  obtain ⟨c, hc, ok⟩ := trod_cell hf
  refine ⟨c, ?_, ok⟩
  simp [Value.cells] at hc
  rw [← hc]

set_option maxRecDepth 100000 in
theorem open_structs {H β : Type} [Inhabited β] {enc : TypeId × Value → H} {W : World} {ts e : TypeId} {k : Nat} {encB : β → List Value} {okB : β → Prop} (hk : ∀ x, (encB x).length = k) (h0 : 0 < k) (hu : Try.prog.underlying ts = some (.slice e)) (hc0 : Try.prog.cellsOf e = k)
    (hone : ∀ {fuel : Nat} {cs : List Value} {x : DataW H × List MemPlace}, DataW.trod enc Try.prog W 0 (fun _ => true) true fuel e cs = some x → ∃ r, cs = encB r ∧ okB r)
    {a0 : Option Addr} {len cap : Nat} {d : DataW H} {p : List MemPlace} (h : DataW.Trod enc Try.prog W 0 (fun _ => true) true ts (.slice a0 len cap) d p) :
    (a0 = none ∧ len = 0 ∧ cap = 0) ∨ ∃ a l, a0 = some a ∧ len = l.length ∧ GRow encB k W (.slice (some a) l.length cap) l ∧ ∀ r ∈ l, okB r := by
  obtain ⟨fuel, hf⟩ := h
  rcases open_slice hu hf with ⟨hc, _⟩ | ⟨a, len', cap', m, n, _, Pl, hc, _, hl, _, hmm, _, hall⟩
  · left
    simp [Value.cells] at hc
    exact hc
  · right
    simp [Value.cells] at hc
    obtain ⟨rfl, rfl, rfl⟩ := hc
    have hm' : m = cap := by simpa using hmm
    subst hm'
    have hN : ∀ i, i < len → ∃ x : β, (∀ j u, (encB x)[j]? = some u → W.cell? (a.add (i * k + j)) = some u) ∧ okB x := by
      intro i hi
      obtain ⟨cs', h1, h2⟩ := hall i (by omega)
      rw [hc0] at h1
      obtain ⟨_, hlen, hcell⟩ := World.cells?_some h1
      obtain ⟨r, hr, hok⟩ := hone h2
      subst hr
      refine ⟨r, fun j u hu => ?_, hok⟩
      have hj : j < k := by rw [← hk r]; exact (List.getElem?_eq_some_iff.1 hu).1
      have e0 := hcell j hj
      rw [add_add] at e0
      rw [e0]
      exact hu
    obtain ⟨f, hfx⟩ := choose_lt hN
    refine ⟨a, (List.range len).map f, rfl, by simp, ?_, ?_⟩
    · refine ⟨some a, m, rfl, by simpa using hl, fun hne => ?_⟩
      have hp : 0 < len := by
        rcases Nat.eq_zero_or_pos len with h0 | h0
        · subst h0; exact absurd rfl hne
        · exact h0
      have hl0 : 0 < (encB (f 0)).length := by rw [hk]; exact h0
      have c0 := (hfx 0 hp).1 0 _ (List.getElem?_eq_getElem hl0)
      obtain ⟨b, off, spot⟩ := a
      have hspot : spot = none := by simpa [Addr.add] using World.cell?_spot c0
      subst hspot
      refine ⟨b, off, rfl, ?_, ?_⟩
      · have := World.block_lt_of_cell? _ _ c0
        rw [Go.WideShapes.add_plain] at this
        exact this
      · intro i hi j u hu
        have hi' : i < len := by simpa using hi
        simp only [List.getElem_map, List.getElem_range] at hu
        have := (hfx i hi').1 j u hu
        rw [Go.WideShapes.add_plain, ← Nat.add_assoc] at this
        exact this
    · intro r hr
      obtain ⟨i, hi, rfl⟩ := List.mem_map.1 hr
      exact (hfx i (List.mem_range.1 hi)).2

set_option maxRecDepth 100000 in
/-- A version's six cells, as they are read. -/
theorem trod_ver {H : Type} {enc : TypeId × Value → H} {W : World} {base : Nat} {sp : Nat → Bool} {held : Bool} {fuel : Nat} {cs : List Value} {x : DataW H × List MemPlace}
    (h : DataW.trod enc Try.prog W base sp held fuel 81 cs = some x) : ∃ v : Ch.Ver, cs = Ch.verC v ∧ Ch.okV v := by
  obtain ⟨xs, n, _, _, hlen, hxl, hfd⟩ := DataW.trod_struct Try.underlying81 h
  rw [cells40] at hlen
  match xs, hxl, cs, hlen with
  | [y0, y1], _, [v0, v1, v2, v3, v4, v5], _ =>
    have g0 := hfd 0 _ rfl
    have g1 := hfd 1 _ rfl
    simp [cells2, cells28] at g0 g1
    obtain ⟨s0, q0, _, w0⟩ := DataW.trod_int Try.underlying2 g0
    obtain ⟨c, hc, ok⟩ := trod_cell g1
    simp at q0 hc
    obtain ⟨rfl, rfl, rfl, rfl, rfl⟩ := hc
    subst q0
    exact ⟨⟨s0, c⟩, rfl, int_bounds w0, ok⟩
set_option maxRecDepth 100000 in
/-- A version by value. -/
theorem ver_in {H : Type} {enc : TypeId × Value → H} {W : World} {b0 : Nat} {v : Value} {d : DataW H} {p : List MemPlace}
    (hv : Value.okWide Try.prog W .any b0 81 v) (h : DataW.Trod enc Try.prog W 0 (fun _ => true) true 81 v d p) :
    ∃ x : Ch.Ver, v = .agg #[.int .i64 x.st, .int .i64 x.c.cnt, .int .i64 x.c.sn, .bool x.c.so, .int .i64 x.c.mn, .int .i64 x.c.mx] ∧ Ch.okV x := by
  obtain ⟨cs, rfl, _⟩ := okWide_struct Try.underlying81 hv
  obtain ⟨fuel, hf⟩ := h
  obtain ⟨x, hx, ok⟩ := trod_ver hf
  refine ⟨x, ?_, ok⟩
  simp [Value.cells, Ch.verC] at hx
  rw [← hx]
instance : Inhabited Ch.Ver := ⟨Ch.zver⟩
set_option maxRecDepth 100000 in
/-- A slice of versions. -/
theorem vers_in {H : Type} {enc : TypeId × Value → H} {W : World} {b0 : Nat} {v : Value} {d : DataW H} {p : List MemPlace}
    (hv : Value.okWide Try.prog W .any b0 57 v) (h : DataW.Trod enc Try.prog W 0 (fun _ => true) true 57 v d p) :
    ∃ (a : Option Addr) (c : Nat) (l : List Ch.Ver), v = .slice a l.length c ∧ Ch.VRow W (.slice a l.length c) l ∧ ∀ y ∈ l, Ch.okV y := by
  obtain ⟨a0, len, cap, rfl⟩ := okWide_slice Try.underlying57 hv
  rcases open_structs (encB := Ch.verC) (okB := Ch.okV) Ch.verC_len (by decide) Try.underlying57 cells40 (fun h => trod_ver h) h with ⟨rfl, rfl, rfl⟩ | ⟨a, l, rfl, rfl, hrow, hok⟩
  · exact ⟨none, 0, [], rfl, GRow.nil W, fun r hr => by cases hr⟩
  · exact ⟨some a, cap, l, rfl, hrow, hok⟩

end Go.Proofs.Ythiofbohllmfbaa
