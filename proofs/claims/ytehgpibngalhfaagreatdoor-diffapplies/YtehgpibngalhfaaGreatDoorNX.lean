/- Rows and changes that came in: their slices, their cells, their sizes. -/
import Derived.Test.YtehgpibngalhfaaGreatDoorN1
import Derived.ProofKit
import Derived.Lay
import Derived.LaidMore
import Derived.OpenShut
import Derived.Stop.Joined
import Derived.Stop.LaidErr
import Derived.Lib.LaidTab
import Derived.Lib.SmallJoins
import Derived.Handed
import Derived.SizedLaws
import Derived.Shelf.Vars
import Derived.SliceStrings
import Derived.Carry
import Derived.Deep.SlicePairs
namespace Go.Proofs.YtehgpibngalhfaaGreatDoor
open Go Go.ChangeShapes Go.WideShapes Go.ChangeAt Go.RowKit Go.Deep Go.Joins Tg Pk Ky Qy

theorem laidOut : laidOutB Tryz.prog = true := by kernel_rfl
theorem cellsC2 : Tryz.prog.cellsOf 2 = 1 := by kernel_rfl
theorem cellsC3 : Tryz.prog.cellsOf 3 = 1 := by kernel_rfl
theorem cellsC4 : Tryz.prog.cellsOf 4 = 1 := by kernel_rfl
theorem cellsC9 : Tryz.prog.cellsOf 9 = 1 := by kernel_rfl
theorem cellsC27 : Tryz.prog.cellsOf 43 = 2 := by kernel_rfl
theorem cellsC29 : Tryz.prog.cellsOf 45 = 4 := by kernel_rfl
theorem int_bounds {a : Int} (h : (Lit.int .i64 a).wf = true) : -9223372036854775808 ≤ a ∧ a ≤ 9223372036854775807 := by
  have e1 : IntKind.i64.min = -9223372036854775808 := rfl
  have e2 : IntKind.i64.max = 9223372036854775807 := rfl
  simp [Lit.wf, e1, e2] at h
  exact ⟨by omega, by omega⟩
theorem weight_in {H : Type} {P : Program} {e : TypeId} {d : DataW H} {n : Nat} (hn : n ∈ d.weights P e) : ∀ l : List (DataW H), d ∈ l → n ∈ DataW.weightsAll P e l
  | x :: r, h => by
    rw [DataW.weightsAll, List.mem_append]
    rcases List.mem_cons.1 h with h | h
    · left; rw [← h]; exact hn
    · exact Or.inr (weight_in hn r h)
theorem weight_text {H : Type} {P : Program} {e : TypeId} (bs : List UInt8) : bs.length ∈ (DataW.lit (.string bs) : DataW H).weights P e := by simp [DataW.weights]

/-! ### rows -/
def rowD {H : Type} (r : Rw.Row) : DataW H := .agg [.lit (.int .i64 r.win), .lit (.string r.grp.data.toList), .agg [.lit (.int .i64 r.n), .lit (.bool r.ov)]]
theorem rowD_weight {H : Type} (r : Rw.Row) : r.grp.data.toList.length ∈ (rowD r : DataW H).weights Tryz.prog 45 := by
  unfold rowD
  rw [DataW.weights, Tryz.underlying45]
  simp [DataW.weightsEach, DataW.weights]
set_option maxRecDepth 100000 in
theorem trod_row {H : Type} {enc : TypeId × Value → H} {W : World} {base : Nat} {sp : Nat → Bool} {held : Bool} {fuel : Nat} {cs : List Value} {x : DataW H × List MemPlace}
    (h : DataW.trod enc Tryz.prog W base sp held fuel 45 cs = some x) : ∃ r : Rw.Row, cs = Rw.rowC r ∧ Rw.okR r ∧ x.1 = rowD r := by
  obtain ⟨xs, n, _, hxy, hlen, hxl, hfd⟩ := DataW.trod_struct Tryz.underlying45 h
  rw [cellsC29] at hlen
  match xs, hxl, cs, hlen with
  | [y0, y1, y2], _, [v0, v1, v2, v3], _ =>
    have g0 := hfd 0 _ rfl
    have g1 := hfd 1 _ rfl
    have g2 := hfd 2 _ rfl
    simp [cellsC2, cellsC9, cellsC27] at g0 g1 g2
    obtain ⟨s0, q0, d0, w0⟩ := DataW.trod_int Tryz.underlying2 g0
    obtain ⟨s1, q1, d1, _⟩ := DataW.trod_string Tryz.underlying9 g1
    obtain ⟨zs, m, _, hzy, _, hzl, hfe⟩ := DataW.trod_struct Tryz.underlying43 g2
    match zs, hzl with
    | [z0, z1], _ =>
      have k0 := hfe 0 _ rfl
      have k1 := hfe 1 _ rfl
      simp [cellsC2, cellsC4] at k0 k1
      obtain ⟨s2, q2, d2, w2⟩ := DataW.trod_int Tryz.underlying2 k0
      obtain ⟨s3, q3, d3⟩ := DataW.trod_bool Tryz.underlying4 k1
      simp at q0 q1 q2 q3
      subst q0 q1 q2 q3
      refine ⟨⟨s0, s1, s2, s3⟩, rfl, ⟨int_bounds w0, int_bounds w2⟩, ?_⟩
      subst d0 d1 d2 d3
      rw [hxy]
      simp only [List.map, hzy]
      rfl

/-! ### slices of structs, whatever their cells -/
set_option maxRecDepth 100000 in
theorem open_structs {H β : Type} [Inhabited β] {enc : TypeId × Value → H} {W : World} {ts e : TypeId} {k : Nat} {encB : β → List Value} {D : β → DataW H} {okB : β → Prop} (hk : ∀ x, (encB x).length = k) (h0 : 0 < k) (hu : Tryz.prog.underlying ts = some (.slice e)) (hc0 : Tryz.prog.cellsOf e = k)
    (hone : ∀ {fuel : Nat} {cs : List Value} {x : DataW H × List MemPlace}, DataW.trod enc Tryz.prog W 0 (fun _ => true) true fuel e cs = some x → ∃ r, cs = encB r ∧ okB r ∧ x.1 = D r)
    {a0 : Option Addr} {len cap : Nat} {d : DataW H} {p : List MemPlace} (h : DataW.Trod enc Tryz.prog W 0 (fun _ => true) true ts (.slice a0 len cap) d p) :
    (a0 = none ∧ len = 0 ∧ cap = 0) ∨ ∃ a l sp, a0 = some a ∧ len = l.length ∧ GRow encB k W (.slice (some a) l.length cap) l ∧ d = .slice (l.map D) sp ∧ ∀ r ∈ l, okB r := by
  obtain ⟨fuel, hf⟩ := h
  rcases open_slice hu hf with ⟨hc, _⟩ | ⟨a, len', cap', m, n, DD, Pl, hc, _, hl, hm, hmm, hx, hall⟩
  · left
    simp [Value.cells] at hc
    exact hc
  · right
    simp [Value.cells] at hc
    obtain ⟨rfl, rfl, rfl⟩ := hc
    have hm' : m = cap := by simpa using hmm
    subst hm'
    have hN : ∀ i, i < len → ∃ x : β, (∀ j u, (encB x)[j]? = some u → W.cell? (a.add (i * k + j)) = some u) ∧ okB x ∧ DD i = D x := by
      intro i hi
      obtain ⟨cs', h1, h2⟩ := hall i (by omega)
      rw [hc0] at h1
      obtain ⟨_, hlen, hcell⟩ := World.cells?_some h1
      obtain ⟨r, hr, hok, hd⟩ := hone h2
      subst hr
      refine ⟨r, fun j u hu => ?_, hok, hd⟩
      have hj : j < k := by rw [← hk r]; exact (List.getElem?_eq_some_iff.1 hu).1
      have e0 := hcell j hj
      rw [add_add] at e0
      rw [e0]
      exact hu
    obtain ⟨f, hfx⟩ := choose_lt hN
    refine ⟨a, (List.range len).map f, (List.range (m - len)).map fun j => DD (len + j), rfl, by simp, ?_, ?_, ?_⟩
    · refine ⟨some a, m, rfl, by simpa using hl, fun hne => ?_⟩
      have hp : 0 < len := by
        rcases Nat.eq_zero_or_pos len with h0 | h0
        · subst h0; exact absurd rfl hne
        · exact h0
      have hl0 : 0 < (encB (f 0)).length := by rw [hk]; exact h0
      have c0 := (hfx 0 hp).1 0 _ (List.getElem?_eq_getElem hl0)
      obtain ⟨b, off, spot⟩ := a
      have hspot : spot = none := by simpa [Addr.add] using World.cell?_spot c0
      subst hspot
      refine ⟨b, off, rfl, ?_, ?_⟩
      · have := World.block_lt_of_cell? _ _ c0
        rw [Go.WideShapes.add_plain] at this
        exact this
      · intro i hi j u hu
        have hi' : i < len := by simpa using hi
        simp only [List.getElem_map, List.getElem_range] at hu
        have := (hfx i hi').1 j u hu
        rw [Go.WideShapes.add_plain, ← Nat.add_assoc] at this
        exact this
    · rw [(Prod.mk.inj hx).1]
      congr 1
      rw [List.map_map]
      apply List.map_congr_left
      intro i hi
      exact (hfx i (List.mem_range.1 hi)).2.2
    · intro r hr
      obtain ⟨i, hi, rfl⟩ := List.mem_map.1 hr
      exact (hfx i (List.mem_range.1 hi)).2.1
theorem open_rows {H : Type} {enc : TypeId × Value → H} {W : World} {a0 : Option Addr} {len cap : Nat} {d : DataW H} {p : List MemPlace} (h : DataW.Trod enc Tryz.prog W 0 (fun _ => true) true 22 (.slice a0 len cap) d p) :
    (a0 = none ∧ len = 0 ∧ cap = 0) ∨ ∃ a l sp, a0 = some a ∧ len = l.length ∧ Rw.RRow W (.slice (some a) l.length cap) l ∧ d = .slice (l.map rowD) sp ∧ ∀ r ∈ l, Rw.okR r :=
  open_structs (encB := Rw.rowC) Rw.rowC_len (by decide) Tryz.underlying22 cellsC29 (fun h => trod_row h) h
set_option maxRecDepth 100000 in
/-- Rows that came in: their slice, their cells, their sizes, their bounds. -/
theorem rows_in {H : Type} {enc : TypeId × Value → H} {W : World} {b0 : Nat} {v : Value} {d : DataW H} {p : List MemPlace} {ts : List TypeId} {ds : List (DataW H)} {j : Nat}
    (hv : Value.okWide Tryz.prog W .any b0 22 v) (h : DataW.Trod enc Tryz.prog W 0 (fun _ => true) true 22 v d p) (hz : (DataW.weightsEach Tryz.prog ts ds).all (· ≤ reachBytes) = true) (ht : ts[j]? = some 22) (hd : ds[j]? = some d) :
    ∃ (a : Option Addr) (c : Nat) (l : List Rw.Row), v = .slice a l.length c ∧ Rw.RRow W (.slice a l.length c) l ∧ (∀ r ∈ l, Rw.okR r) ∧ ∀ r ∈ l, r.grp.size ≤ 281474976710656 := by
  obtain ⟨a0, len, cap, rfl⟩ := okWide_slice Tryz.underlying22 hv
  rcases open_rows h with ⟨rfl, rfl, rfl⟩ | ⟨a, l, sp, rfl, rfl, hrow, rfl, hok⟩
  · exact ⟨none, 0, [], rfl, GRow.nil W, (fun r hr => by cases hr), fun r hr => by cases hr⟩
  · refine ⟨some a, cap, l, rfl, hrow, hok, fun r hr => ?_⟩
    have h2 := reachBytes_lt
    have e3 : (2 : Nat) ^ 47 = 140737488355328 := by decide
    have hw : r.grp.data.toList.length ∈ (DataW.slice (l.map rowD) sp : DataW H).weights Tryz.prog 22 := by
      rw [DataW.weights, Tryz.underlying22]
      exact List.mem_cons_of_mem _ (List.mem_append_left _ (weight_in (rowD_weight r) _ (List.mem_map.2 ⟨r, hr, rfl⟩)))
    have h1 := List.all_eq_true.1 hz _ (DataW.weights_mem_each ht hd _ hw)
    simp only [decide_eq_true_eq] at h1
    rw [size_list]
    omega

/-! ### changes -/
def chD {H : Type} (c : Df.Chg) : DataW H := .agg [rowD c.r, .lit (.bool c.gone)]
theorem cellsC48 : Tryz.prog.cellsOf 47 = 5 := by kernel_rfl
theorem chD_weight {H : Type} (c : Df.Chg) : c.r.grp.data.toList.length ∈ (chD c : DataW H).weights Tryz.prog 47 := by
  unfold chD
  rw [DataW.weights, Tryz.underlying47]
  have h := rowD_weight (H := H) c.r
  simp [DataW.weightsEach]
  left
  simpa using h
set_option maxRecDepth 100000 in
theorem trod_chg {H : Type} {enc : TypeId × Value → H} {W : World} {base : Nat} {sp : Nat → Bool} {held : Bool} {fuel : Nat} {cs : List Value} {x : DataW H × List MemPlace}
    (h : DataW.trod enc Tryz.prog W base sp held fuel 47 cs = some x) : ∃ c : Df.Chg, cs = Rw.chC c ∧ Rw.okR c.r ∧ x.1 = chD c := by
  obtain ⟨xs, n, _, hxy, hlen, hxl, hfd⟩ := DataW.trod_struct Tryz.underlying47 h
  rw [cellsC48] at hlen
  match xs, hxl, cs, hlen with
  | [y0, y1], _, [v0, v1, v2, v3, v4], _ =>
    have g0 := hfd 0 _ rfl
    have g1 := hfd 1 _ rfl
    simp [cellsC29, cellsC4] at g0 g1
    obtain ⟨r, q0, k0, d0⟩ := trod_row g0
    obtain ⟨s1, q1, d1⟩ := DataW.trod_bool Tryz.underlying4 g1
    obtain ⟨r1, r2, r3, r4⟩ := r
    simp [Rw.rowC] at q0 q1
    obtain ⟨rfl, rfl, rfl, rfl⟩ := q0
    subst q1
    refine ⟨⟨⟨r1, r2, r3, r4⟩, s1⟩, rfl, k0, ?_⟩
    rw [hxy]
    simp only [List.map, d0, d1]
    rfl
theorem open_chgs {H : Type} {enc : TypeId × Value → H} {W : World} {a0 : Option Addr} {len cap : Nat} {d : DataW H} {p : List MemPlace} (h : DataW.Trod enc Tryz.prog W 0 (fun _ => true) true 25 (.slice a0 len cap) d p) :
    (a0 = none ∧ len = 0 ∧ cap = 0) ∨ ∃ a l sp, a0 = some a ∧ len = l.length ∧ Rw.CRow W (.slice (some a) l.length cap) l ∧ d = .slice (l.map chD) sp ∧ ∀ c ∈ l, Rw.okR c.r :=
  open_structs (encB := Rw.chC) (okB := fun c => Rw.okR c.r) Rw.chC_len (by decide) Tryz.underlying25 cellsC48 (fun h => trod_chg h) h
set_option maxRecDepth 100000 in
/-- Changes that came in: their slice, their cells, their sizes, their bounds. -/
theorem chgs_in {H : Type} {enc : TypeId × Value → H} {W : World} {b0 : Nat} {v : Value} {d : DataW H} {p : List MemPlace} {ts : List TypeId} {ds : List (DataW H)} {j : Nat}
    (hv : Value.okWide Tryz.prog W .any b0 25 v) (h : DataW.Trod enc Tryz.prog W 0 (fun _ => true) true 25 v d p) (hz : (DataW.weightsEach Tryz.prog ts ds).all (· ≤ reachBytes) = true) (ht : ts[j]? = some 25) (hd : ds[j]? = some d) :
    ∃ (a : Option Addr) (c : Nat) (l : List Df.Chg), v = .slice a l.length c ∧ Rw.CRow W (.slice a l.length c) l ∧ (∀ x ∈ l, Rw.okR x.r) ∧ ∀ x ∈ l, x.r.grp.size ≤ 281474976710656 := by
  obtain ⟨a0, len, cap, rfl⟩ := okWide_slice Tryz.underlying25 hv
  rcases open_chgs h with ⟨rfl, rfl, rfl⟩ | ⟨a, l, sp, rfl, rfl, hrow, rfl, hok⟩
  · exact ⟨none, 0, [], rfl, GRow.nil W, (fun r hr => by cases hr), fun r hr => by cases hr⟩
  · refine ⟨some a, cap, l, rfl, hrow, hok, fun r hr => ?_⟩
    have h2 := reachBytes_lt
    have e3 : (2 : Nat) ^ 47 = 140737488355328 := by decide
    have hw : r.r.grp.data.toList.length ∈ (DataW.slice (l.map chD) sp : DataW H).weights Tryz.prog 25 := by
      rw [DataW.weights, Tryz.underlying25]
      exact List.mem_cons_of_mem _ (List.mem_append_left _ (weight_in (chD_weight r) _ (List.mem_map.2 ⟨r, hr, rfl⟩)))
    have h1 := List.all_eq_true.1 hz _ (DataW.weights_mem_each ht hd _ hw)
    simp only [decide_eq_true_eq] at h1
    rw [size_list]
    omega
end Go.Proofs.YtehgpibngalhfaaGreatDoor
