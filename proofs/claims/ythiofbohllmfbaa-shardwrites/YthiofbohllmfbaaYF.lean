/- What lies behind the arguments that came in: shards, writes, drops, two floors. -/
import Derived.Test.YthiofbohllmfbaaXF
import Derived.Test.YthiofbohllmfbaaSF
namespace Go.Proofs.Ythiofbohllmfbaa.Sh
open Go Go.ChangeShapes Go.WideShapes Go.ChangeAt Go.RowKit Go.Joins Go.Deep Cl Ce Ch

theorem cells9 : Try.prog.cellsOf 9 = 1 := by kernel_rfl
theorem cells57 : Try.prog.cellsOf 57 = 1 := by kernel_rfl
theorem cells59 : Try.prog.cellsOf 59 = 3 := by kernel_rfl
theorem cells22 : Try.prog.cellsOf 22 = 1 := by kernel_rfl
theorem cells24 : Try.prog.cellsOf 24 = 1 := by kernel_rfl
theorem cells26w : Try.prog.cellsOf 26 = 4 := by kernel_rfl
theorem cells39 : Try.prog.cellsOf 39 = 2 := by kernel_rfl
theorem cells47 : Try.prog.cellsOf 47 = 2 := by kernel_rfl

set_option maxRecDepth 100000 in
/-- A slice of versions that lies in a cell. -/
theorem trod_vers {H : Type} {enc : TypeId × Value → H} {W : World} {fuel : Nat} {cs : List Value} {x : DataW H × List MemPlace}
    (h : DataW.trod enc Try.prog W 0 (fun _ => true) true fuel 57 cs = some x) : ∃ (sl : Value) (l : List Ver), cs = [sl] ∧ VRow W sl l ∧ ∀ y ∈ l, okV y := by
  have h' := h
  rcases open_slice Try.underlying57 h with ⟨rfl, _⟩ | ⟨a, len, cap, m, n, _, _, rfl, _⟩
  · exact ⟨_, [], rfl, GRow.nil W, fun r hr => by cases hr⟩
  · have h2 : DataW.Trod enc Try.prog W 0 (fun _ => true) true 57 (.slice (some a) len cap) x.1 x.2 := ⟨fuel, h'⟩
    rcases open_structs (encB := verC) (okB := okV) verC_len (by decide) Try.underlying57 cells40 (fun h => trod_ver h) h2 with ⟨e, _⟩ | ⟨a', l, e, rfl, hrow, hok⟩
    · cases e
    · cases e
      exact ⟨_, l, rfl, hrow, hok⟩
set_option maxRecDepth 100000 in
/-- An entry's three cells, as they are read. -/
theorem trod_ent {H : Type} {enc : TypeId × Value → H} {W : World} {fuel : Nat} {cs : List Value} {x : DataW H × List MemPlace}
    (h : DataW.trod enc Try.prog W 0 (fun _ => true) true fuel 59 cs = some x) : ∃ r : Raw, cs = rawC r ∧ VRow W r.sl r.vs ∧ ok64 r.win ∧ ∀ y ∈ r.vs, okV y := by
  obtain ⟨xs, n, _, _, hlen, hxl, hfd⟩ := DataW.trod_struct Try.underlying59 h
  rw [cells59] at hlen
  match xs, hxl, cs, hlen with
  | [y0, y1, y2], _, [v0, v1, v2], _ =>
    have g0 := hfd 0 _ rfl
    have g1 := hfd 1 _ rfl
    have g2 := hfd 2 _ rfl
    simp [cells2, cells9, cells57] at g0 g1 g2
    obtain ⟨s0, q0, _, w0⟩ := DataW.trod_int Try.underlying2 g0
    obtain ⟨s1, q1, _, w1⟩ := DataW.trod_string Try.underlying9 g1
    obtain ⟨sl, l, q2, hr, hok⟩ := trod_vers g2
    simp at q0 q1 q2
    subst q0 q1 q2
    exact ⟨⟨s0, s1, v2, l⟩, rfl, hr, int_bounds w0, hok⟩
instance : Inhabited Raw := ⟨⟨0, ⟨#[]⟩, .slice none 0 0, []⟩⟩
set_option maxRecDepth 100000 in
/-- A shard by value. -/
theorem shard_in {H : Type} {enc : TypeId × Value → H} {W : World} {b0 : Nat} {v : Value} {d : DataW H} {p : List MemPlace}
    (hv : Value.okWide Try.prog W .any b0 24 v) (h : DataW.Trod enc Try.prog W 0 (fun _ => true) true 24 v d p) :
    ∃ (u : Value) (l : List Ent), v = .agg #[u] ∧ SRow W u l ∧ ∀ e ∈ l, ok64 e.win ∧ ∀ y ∈ e.vs, okV y := by
  obtain ⟨cs, rfl, hcs⟩ := okWide_struct Try.underlying24 hv
  obtain ⟨fuel, hf⟩ := h
  obtain ⟨xs, n, _, _, hlen, hxl, hfd⟩ := DataW.trod_struct Try.underlying24 hf
  rw [cells24] at hcs
  obtain ⟨csl⟩ := cs
  simp only [List.size_toArray] at hcs
  match xs, hxl, csl, hcs with
  | [y0], _, [u], _ =>
    have g0 := hfd 0 _ rfl
    simp [Value.cells, cells22] at g0
    have g1 := g0
    refine ⟨u, ?_⟩
    rcases open_slice Try.underlying22 g0 with ⟨e, _⟩ | ⟨a, len, cap, m, k, _, _, e, _⟩
    · simp at e
      subst e
      exact ⟨[], rfl, SRow.nil W, fun e he => by cases he⟩
    · simp at e
      subst e
      have h2 : DataW.Trod enc Try.prog W 0 (fun _ => true) true 22 (.slice (some a) len cap) y0.1 y0.2 := ⟨n, g1⟩
      rcases open_structs (encB := rawC) (okB := fun r => VRow W r.sl r.vs ∧ ok64 r.win ∧ ∀ y ∈ r.vs, okV y) rawC_len (by decide) Try.underlying22 cells59 (fun h => trod_ent h) h2 with ⟨e, _⟩ | ⟨a', rs, e, rfl, hrow, hok⟩
      · cases e
      · cases e
        refine ⟨rs.map abs, rfl, ⟨rs, hrow, rfl, fun r hr => (hok r hr).1⟩, fun e he => ?_⟩
        obtain ⟨r, hr, rfl⟩ := List.mem_map.1 he
        exact (hok r hr).2
set_option maxRecDepth 100000 in
/-- A write by value. -/
theorem write_in {H : Type} {enc : TypeId × Value → H} {W : World} {b0 : Nat} {v : Value} {d : DataW H} {p : List MemPlace}
    (hv : Value.okWide Try.prog W .any b0 26 v) (h : DataW.Trod enc Try.prog W 0 (fun _ => true) true 26 v d p) :
    ∃ (x0 x1 : Int) (x2 : ByteArray) (x3 : Int), v = .agg #[.int .i64 x0, .int .i64 x1, .string x2, .int .i64 x3] ∧ ok64 x0 ∧ ok64 x1 ∧ ok64 x3 := by
  obtain ⟨cs, rfl, hcs⟩ := okWide_struct Try.underlying26 hv
  obtain ⟨fuel, hf⟩ := h
  obtain ⟨xs, n, _, _, hlen, hxl, hfd⟩ := DataW.trod_struct Try.underlying26 hf
  rw [cells26w] at hcs
  obtain ⟨csl⟩ := cs
  simp only [List.size_toArray] at hcs
  match xs, hxl, csl, hcs with
  | [y0, y1, y2, y3], _, [v0, v1, v2, v3], _ =>
    have g0 := hfd 0 _ rfl
    have g1 := hfd 1 _ rfl
    have g2 := hfd 2 _ rfl
    have g3 := hfd 3 _ rfl
    simp [Value.cells, cells2, cells9] at g0 g1 g2 g3
    obtain ⟨s0, q0, _, w0⟩ := DataW.trod_int Try.underlying2 g0
    obtain ⟨s1, q1, _, w1⟩ := DataW.trod_int Try.underlying2 g1
    obtain ⟨s2, q2, _, _⟩ := DataW.trod_string Try.underlying9 g2
    obtain ⟨s3, q3, _, w3⟩ := DataW.trod_int Try.underlying2 g3
    simp at q0 q1 q2 q3
    subst q0 q1 q2 q3
    exact ⟨s0, s1, s2, s3, rfl, int_bounds w0, int_bounds w1, int_bounds w3⟩
set_option maxRecDepth 100000 in
theorem trod_drp {H : Type} {enc : TypeId × Value → H} {W : World} {fuel : Nat} {cs : List Value} {x : DataW H × List MemPlace}
    (h : DataW.trod enc Try.prog W 0 (fun _ => true) true fuel 39 cs = some x) : ∃ r : Drp, cs = drpC r ∧ True := by
  obtain ⟨xs, n, _, _, hlen, hxl, hfd⟩ := DataW.trod_struct Try.underlying39 h
  rw [cells39] at hlen
  match xs, hxl, cs, hlen with
  | [y0, y1], _, [v0, v1], _ =>
    have g0 := hfd 0 _ rfl
    have g1 := hfd 1 _ rfl
    simp [cells2] at g0 g1
    obtain ⟨s0, q0, _, w0⟩ := DataW.trod_int Try.underlying2 g0
    obtain ⟨s1, q1, _, w1⟩ := DataW.trod_int Try.underlying2 g1
    simp at q0 q1
    subst q0 q1
    exact ⟨⟨s0, s1⟩, rfl, trivial⟩
set_option maxRecDepth 100000 in
/-- A slice of drops. -/
theorem drops_in {H : Type} {enc : TypeId × Value → H} {W : World} {b0 : Nat} {v : Value} {d : DataW H} {p : List MemPlace}
    (hv : Value.okWide Try.prog W .any b0 35 v) (h : DataW.Trod enc Try.prog W 0 (fun _ => true) true 35 v d p) :
    ∃ (a : Option Addr) (c : Nat) (l : List Drp), v = .slice a l.length c ∧ DRow W (.slice a l.length c) l := by
  obtain ⟨a0, len, cap, rfl⟩ := okWide_slice Try.underlying35 hv
  rcases open_structs (encB := drpC) (okB := fun _ => True) drpC_len (by decide) Try.underlying35 cells39 (fun h => trod_drp h) h with ⟨rfl, rfl, rfl⟩ | ⟨a, l, rfl, rfl, hrow, -⟩
  · exact ⟨none, 0, [], rfl, GRow.nil W⟩
  · exact ⟨some a, cap, l, rfl, hrow⟩
theorem okWide_arr {P : Program} {w : World} {r : Reach} {base : Nat} {t : TypeId} {v : Value} {n : Nat} {e : TypeId} (ht : P.underlying t = some (.array n e)) (h : Value.okWide P w r base t v) : ∃ cs, v = .agg cs ∧ cs.size = P.cellsOf t := by
  simp only [Value.okWide, ht] at h
  obtain ⟨cs, h1, h2, _⟩ := h
  exact ⟨cs, h1, h2⟩
set_option maxRecDepth 100000 in
/-- Two floors. -/
theorem floors_in {H : Type} {enc : TypeId × Value → H} {W : World} {b0 : Nat} {v : Value} {d : DataW H} {p : List MemPlace}
    (hv : Value.okWide Try.prog W .any b0 47 v) (h : DataW.Trod enc Try.prog W 0 (fun _ => true) true 47 v d p) :
    ∃ f0 f1 : Int, v = .agg #[.int .i64 f0, .int .i64 f1] := by
  obtain ⟨cs, rfl, hcs⟩ := okWide_arr Try.underlying47 hv
  obtain ⟨fuel, hf⟩ := h
  obtain ⟨xs, n, _, _, hlen, hxl, hfd⟩ := DataW.trod_array Try.underlying47 hf
  rw [cells47] at hcs
  obtain ⟨csl⟩ := cs
  simp only [List.size_toArray] at hcs
  match xs, hxl, csl, hcs with
  | [y0, y1], _, [v0, v1], _ =>
    have g0 := hfd 0 (by decide)
    have g1 := hfd 1 (by decide)
    simp [Value.cells, cells2] at g0 g1
    obtain ⟨s0, q0, _, w0⟩ := DataW.trod_int Try.underlying2 g0
    obtain ⟨s1, q1, _, w1⟩ := DataW.trod_int Try.underlying2 g1
    simp at q0 q1
    subst q0 q1
    exact ⟨s0, s1, rfl⟩
end Go.Proofs.Ythiofbohllmfbaa.Sh
