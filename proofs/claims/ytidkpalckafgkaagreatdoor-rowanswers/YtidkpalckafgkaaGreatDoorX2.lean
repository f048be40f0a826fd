/- What every row of this seat is lifted by: the start that meets the list; what the listed variables and the library's variable MaxLen give the walks. What lies behind slices of rows, of items, of matches and of texts that came in, and a query by value: their cells, their sizes, the bounds of their numbers. -/
import Derived.Test.YtidkpalckafgkaaGreatDoorRows
import Derived.Test.YtidkpalckafgkaaGreatDoorA2
import Derived.Test.YtidkpalckafgkaaGreatDoorB1
import Derived.ProofKit
import Derived.Lay
import Derived.LaidMore
import Derived.OpenShut
import Derived.Stop.Joined
import Derived.Stop.LaidErr
import Derived.Lib.LaidTab
import Derived.Lib.SmallJoins
import Derived.Handed
import Derived.SizedLaws
import Derived.Shelf.Vars
import Derived.Test.YtidkpalckafgkaaGreatDoorA7
import Derived.Test.YtidkpalckafgkaaGreatDoorD1
import Derived.SliceStrings
import Derived.Carry
import Derived.Deep.SlicePairs
namespace Go.Proofs.YtidkpalckafgkaaGreatDoor
open Go Go.ChangeShapes Go.WideShapes Go.ChangeAt Go.RowKit Go.Joins

theorem own : ownKnob Tryz.prog.godebug = none := by kernel_rfl
abbrev laidL : List (String × DataW Unit) := Rows.rowTellsRow.laid

/-- From the world's shape to what the walks ask. -/
theorem env_of {W : World} (h : W.ShapedOpen Tryz.prog) : Env W :=
  cell_of_shapedOpen_int (P := Tryz.prog) (g := 0) (zero := #[.int .i64 0]) (t := 3) h (of_decide_eq_true (by kernel_rfl)) (by kernel_rfl) rfl (by kernel_rfl) (by kernel_rfl) Tryz.underlying3

set_option maxRecDepth 100000 in
theorem start_met (os : Os) (args : Array Value) : laidMetH Tryz.prog laidL ((World.laidAll Tryz.prog os laidL).forCall (fun _ _ => 0) ⟨#[], args, []⟩).memory := by
  rw [MakeChecks.laidMetH_plain _ _ _ (by kernel_rfl)]
  exact laidMet_laidAll _ (by kernel_rfl) (by kernel_rfl)

theorem gPow : Tryz.prog.globalNamed "internal/strconv.uint64pow10" = some 1 := by kernel_rfl
theorem gPowT : (Tryz.prog.globals[1]?).map (·.type) = some 198 := by kernel_rfl
theorem gRng : Tryz.prog.globalNamed "strconv.ErrRange" = some 5 := by kernel_rfl
theorem gRngT : (Tryz.prog.globals[5]?).map (·.type) = some 108 := by kernel_rfl
theorem c166 : Tryz.prog.cellsOf 166 = 1 := by kernel_rfl
theorem c198 : Tryz.prog.cellsOf 198 = 20 := by kernel_rfl
theorem c240 : Tryz.prog.cellsOf 240 = 1 := by kernel_rfl
theorem c9 : Tryz.prog.cellsOf 9 = 1 := by kernel_rfl
theorem powD : (Rows.laid_internal_strconv_uint64pow10 : DataW Unit) = Lib.tabData .u64 Lib.pow10Tab := by
  simp [Rows.laid_internal_strconv_uint64pow10, Lib.tabData, Lib.pow10Tab, List.range, List.range.loop]
theorem var_below {w w' : World} {B : Nat} {n : String} {g : Nat} {cs : Array Value} (hg : Tryz.prog.globalNamed n = some g) (hB : g < B) (h : w.var? Tryz.prog n = some cs) (hb : Below B w w') : w'.var? Tryz.prog n = some cs :=
  var?_below hb hg hB h
theorem starred : "*" ++ "errors.errorString" = "*errors.errorString" := by decide
theorem row238 (u : TypeId) (h : Tryz.prog.typeName? 3 u = some "*errors.errorString") : u = 238 :=
  typeName_ptr_named (nm := "errors.errorString") (by rw [starred]; kernel_rfl) (by kernel_rfl) (by decide) u (by rw [starred]; exact h)

/-- From the list to what the walks ask. -/
theorem envS_of {W : World} (h : laidMetH Tryz.prog laidL W) : St.Env W.heap.size W := by
  rw [MakeChecks.laidMetH_plain _ _ _ (by kernel_rfl)] at h
  have h2 := h.tail.tail
  have h3 := h.tail.tail.tail.tail
  have hT : Lib.TabIs Tryz.prog W "internal/strconv.uint64pow10" .u64 Lib.pow10Tab := by
    rw [powD] at h2
    exact Lib.tabIs_of_head gPow gPowT Tryz.underlying198 Tryz.underlying166 c166 c198 h2
  obtain ⟨a, s, hv, _, _, _⟩ := laid_sentinel h3 gRng gRngT Tryz.underlying108 row238 Tryz.underlying238 Tryz.underlying240 rfl rfl Tryz.underlying9 c240 c9
  have hc : W.cell? ⟨5, 0, none⟩ = some (.iface 238 (.pointer (some a))) := by have h0 := World.var?_cell gRng hv 0; simpa using h0
  have hz := World.block_lt_of_cell? _ _ hc
  exact ⟨Lib.tabBelow_of_tabIs hT, fun w' hb => ⟨_, _, var_below gRng hz hv hb⟩, Nat.le_refl _⟩

set_option maxRecDepth 100000 in
/-- A contract over every world that fits, the world's shape and the listed variables known, makes the row's claim. -/
theorem lift {H : Type} {enc : TypeId × Value → H} {os : Os} {f : FuncId} {fn : Func} {s : ChangeSpec}
    (started : os.Started) (noInit : Tryz.prog.inits.idxOf? f = none) (hfn : Tryz.prog.funcs[f]? = some fn)
    (wit : ∃ (w : World) (tape : Tape) (i : Input), w.os = os ∧ (w.forCall tape i).Shaped Tryz.prog ∧ i.vars = [] ∧ Input.okWide Tryz.prog (w.forCall tape i) .any w.heap.size f i ∧
      ((s.pre enc Tryz.prog fn [] false (w.forCall tape i).memory i.args ∧ laidMetH Tryz.prog laidL (w.forCall tape i).memory) ∧ sizedMet enc Tryz.prog fn (OpenSpec.ofChange s) false (w.forCall tape i).memory i.args) ∧ ({} : Assume).holds Tryz.prog (lone (Frame.enter Tryz.prog f i.args .normal) [] (w.forCall tape i)))
    (walk : ∀ (W : World) (base : Nat) (args : Array Value) (ds gs : List (DataW H)) (before : List MemPlace),
      (∀ (j : Nat) t v, fn.params[j]? = some t → args[j]? = some v → Value.okWide Tryz.prog W .any base t v) →
      DataW.Whole enc Tryz.prog fn.params.toList s.vars false W args.toList ds gs before →
      (DataW.weightsEach Tryz.prog (fn.params.toList ++ s.plain.varTypes Tryz.prog) (ds ++ gs)).all (· ≤ reachBytes) = true → Env W → St.Env W.heap.size W →
      Calls Tryz.prog f args W fun e W' => ∃ v, e = .returned v ∧ s.post enc Tryz.prog fn false true false false W args v W') :
    ReturnsInHanded {} Tryz.checked os f .any (fun w args => (s.pre enc Tryz.prog fn [] false w args ∧ laidMetH Tryz.prog laidL w) ∧ sizedMet enc Tryz.prog fn (OpenSpec.ofChange s) false w args) (s.post enc Tryz.prog fn false true false false) := by
  refine returnsInHanded_of_calls (C := Tryz.checked) own started noInit wit ?_
  intro w tape i _ hshape _ hok hpre _
  obtain ⟨_, _, _, fn', hfn', _, _, _, _, hval⟩ := hok
  obtain rfl : fn' = fn := Option.some.inj (hfn'.symm.trans hfn)
  obtain ⟨⟨⟨ds, gs, before, hw, _⟩, hX⟩, hz⟩ := hpre
  have hw' := DataW.Whole.of_heap (w' := w.forCall tape i) (by rfl) hw
  have hX' : laidMetH Tryz.prog laidL (w.forCall tape i) := hX.of_heap (by rfl)
  refine (walk (w.forCall tape i) w.heap.size i.args ds gs before hval hw' (hz.weights hw) (env_of hshape) (envS_of hX')).mono fun e W' ⟨v, he, hp⟩ => ?_
  subst he
  exact ChangeSpec.post_blind hp
theorem byte_of {n : Int} (h : (Lit.int .u8 n).wf = true) : 0 ≤ n ∧ n ≤ 255 := by
  have h' : (decide (IntKind.u8.min ≤ n) && decide (n ≤ IntKind.u8.max)) = true := h
  rw [Bool.and_eq_true, decide_eq_true_eq, decide_eq_true_eq] at h'
  exact h'

end Go.Proofs.YtidkpalckafgkaaGreatDoor
namespace Go.Proofs.YtidkpalckafgkaaGreatDoor
open Go Go.ChangeShapes Go.WideShapes Go.ChangeAt Go.RowKit Go.Deep Go.Joins Tg Pk Ky Qy

theorem laidOut : laidOutB Tryz.prog = true := by kernel_rfl
theorem cellsC2 : Tryz.prog.cellsOf 2 = 1 := by kernel_rfl
theorem cellsC3 : Tryz.prog.cellsOf 3 = 1 := by kernel_rfl
theorem cellsC4 : Tryz.prog.cellsOf 4 = 1 := by kernel_rfl
theorem cellsC9 : Tryz.prog.cellsOf 9 = 1 := by kernel_rfl
theorem cellsC27 : Tryz.prog.cellsOf 27 = 2 := by kernel_rfl
theorem cellsC29 : Tryz.prog.cellsOf 29 = 4 := by kernel_rfl
theorem cellsC39 : Tryz.prog.cellsOf 39 = 4 := by kernel_rfl
theorem cellsC48 : Tryz.prog.cellsOf 48 = 5 := by kernel_rfl
theorem cellsC50 : Tryz.prog.cellsOf 50 = 7 := by kernel_rfl
theorem cellsC118 : Tryz.prog.cellsOf 118 = 3 := by kernel_rfl

theorem int_bounds {a : Int} (h : (Lit.int .i64 a).wf = true) : -9223372036854775808 ≤ a ∧ a ≤ 9223372036854775807 := by
  have e1 : IntKind.i64.min = -9223372036854775808 := rfl
  have e2 : IntKind.i64.max = 9223372036854775807 := rfl
  simp [Lit.wf, e1, e2] at h
  exact ⟨by omega, by omega⟩
theorem weight_in {H : Type} {P : Program} {e : TypeId} {d : DataW H} {n : Nat} (hn : n ∈ d.weights P e) : ∀ l : List (DataW H), d ∈ l → n ∈ DataW.weightsAll P e l
  | x :: r, h => by
    rw [DataW.weightsAll, List.mem_append]
    rcases List.mem_cons.1 h with h | h
    · left; rw [← h]; exact hn
    · exact Or.inr (weight_in hn r h)
theorem weight_text {H : Type} {P : Program} {e : TypeId} (bs : List UInt8) : bs.length ∈ (DataW.lit (.string bs) : DataW H).weights P e := by simp [DataW.weights]

/-! ### rows -/
def rowD {H : Type} (r : Rw.Row) : DataW H := .agg [.lit (.int .i64 r.win), .lit (.string r.grp.data.toList), .agg [.lit (.int .i64 r.n), .lit (.bool r.ov)]]
theorem rowD_weight {H : Type} (r : Rw.Row) : r.grp.data.toList.length ∈ (rowD r : DataW H).weights Tryz.prog 29 := by
  unfold rowD
  rw [DataW.weights, Tryz.underlying29]
  simp [DataW.weightsEach, DataW.weights]
set_option maxRecDepth 100000 in
theorem trod_row {H : Type} {enc : TypeId × Value → H} {W : World} {base : Nat} {sp : Nat → Bool} {held : Bool} {fuel : Nat} {cs : List Value} {x : DataW H × List MemPlace}
    (h : DataW.trod enc Tryz.prog W base sp held fuel 29 cs = some x) : ∃ r : Rw.Row, cs = Rw.rowC r ∧ Rw.okR r ∧ x.1 = rowD r := by
  obtain ⟨xs, n, _, hxy, hlen, hxl, hfd⟩ := DataW.trod_struct Tryz.underlying29 h
  rw [cellsC29] at hlen
  match xs, hxl, cs, hlen with
  | [y0, y1, y2], _, [v0, v1, v2, v3], _ =>
    have g0 := hfd 0 _ rfl
    have g1 := hfd 1 _ rfl
    have g2 := hfd 2 _ rfl
    simp [cellsC2, cellsC9, cellsC27] at g0 g1 g2
    obtain ⟨s0, q0, d0, w0⟩ := DataW.trod_int Tryz.underlying2 g0
    obtain ⟨s1, q1, d1, _⟩ := DataW.trod_string Tryz.underlying9 g1
    obtain ⟨zs, m, _, hzy, _, hzl, hfe⟩ := DataW.trod_struct Tryz.underlying27 g2
    match zs, hzl with
    | [z0, z1], _ =>
      have k0 := hfe 0 _ rfl
      have k1 := hfe 1 _ rfl
      simp [cellsC2, cellsC4] at k0 k1
      obtain ⟨s2, q2, d2, w2⟩ := DataW.trod_int Tryz.underlying2 k0
      obtain ⟨s3, q3, d3⟩ := DataW.trod_bool Tryz.underlying4 k1
      simp at q0 q1 q2 q3
      subst q0 q1 q2 q3
      refine ⟨⟨s0, s1, s2, s3⟩, rfl, ⟨int_bounds w0, int_bounds w2⟩, ?_⟩
      subst d0 d1 d2 d3
      rw [hxy]
      simp only [List.map, hzy]
      rfl

/-! ### items -/
def cellD {H : Type} (c : Cl.Cell) : DataW H := .agg [.lit (.int .i64 c.cnt), .agg [.lit (.int .i64 c.sn), .lit (.bool c.so)], .lit (.int .i64 c.mn), .lit (.int .i64 c.mx)]
def itD {H : Type} (i : Rw.Item) : DataW H := .agg [.lit (.int .i64 i.win), .lit (.string i.key.data.toList), cellD i.c]
theorem itD_weight {H : Type} (i : Rw.Item) : i.key.data.toList.length ∈ (itD i : DataW H).weights Tryz.prog 50 := by
  unfold itD
  rw [DataW.weights, Tryz.underlying50]
  simp [DataW.weightsEach, DataW.weights]
set_option maxRecDepth 100000 in
theorem trod_cell {H : Type} {enc : TypeId × Value → H} {W : World} {base : Nat} {sp : Nat → Bool} {held : Bool} {fuel : Nat} {cs : List Value} {x : DataW H × List MemPlace}
    (h : DataW.trod enc Tryz.prog W base sp held fuel 48 cs = some x) :
    ∃ c : Cl.Cell, cs = [.int .i64 c.cnt, .int .i64 c.sn, .bool c.so, .int .i64 c.mn, .int .i64 c.mx] ∧ Cl.okC c ∧ x.1 = cellD c := by
  obtain ⟨xs, n, _, hxy, hlen, hxl, hfd⟩ := DataW.trod_struct Tryz.underlying48 h
  rw [cellsC48] at hlen
  match xs, hxl, cs, hlen with
  | [y0, y1, y2, y3], _, [v0, v1, v2, v3, v4], _ =>
    have g0 := hfd 0 _ rfl
    have g1 := hfd 1 _ rfl
    have g2 := hfd 2 _ rfl
    have g3 := hfd 3 _ rfl
    simp [cellsC2, cellsC27] at g0 g1 g2 g3
    obtain ⟨s0, q0, d0, w0⟩ := DataW.trod_int Tryz.underlying2 g0
    obtain ⟨s3, q3, d3, w3⟩ := DataW.trod_int Tryz.underlying2 g2
    obtain ⟨s4, q4, d4, w4⟩ := DataW.trod_int Tryz.underlying2 g3
    obtain ⟨zs, m, _, hzy, _, hzl, hfe⟩ := DataW.trod_struct Tryz.underlying27 g1
    match zs, hzl with
    | [z0, z1], _ =>
      have k0 := hfe 0 _ rfl
      have k1 := hfe 1 _ rfl
      simp [cellsC2, cellsC4] at k0 k1
      obtain ⟨s1, q1, d1, w1⟩ := DataW.trod_int Tryz.underlying2 k0
      obtain ⟨s2, q2, d2⟩ := DataW.trod_bool Tryz.underlying4 k1
      simp at q0 q1 q2 q3 q4
      subst q0 q1 q2 q3 q4
      refine ⟨⟨s0, s1, s2, s3, s4⟩, rfl, ⟨int_bounds w0, int_bounds w1, int_bounds w3, int_bounds w4⟩, ?_⟩
      subst d0 d1 d2 d3 d4
      rw [hxy]
      simp only [List.map, hzy]
      rfl
set_option maxRecDepth 100000 in
theorem trod_item {H : Type} {enc : TypeId × Value → H} {W : World} {base : Nat} {sp : Nat → Bool} {held : Bool} {fuel : Nat} {cs : List Value} {x : DataW H × List MemPlace}
    (h : DataW.trod enc Tryz.prog W base sp held fuel 50 cs = some x) : ∃ i : Rw.Item, cs = Rw.itC i ∧ Rw.okI i ∧ x.1 = itD i := by
  obtain ⟨xs, n, _, hxy, hlen, hxl, hfd⟩ := DataW.trod_struct Tryz.underlying50 h
  rw [cellsC50] at hlen
  match xs, hxl, cs, hlen with
  | [y0, y1, y2], _, [v0, v1, v2, v3, v4, v5, v6], _ =>
    have g0 := hfd 0 _ rfl
    have g1 := hfd 1 _ rfl
    have g2 := hfd 2 _ rfl
    simp [cellsC2, cellsC9, cellsC48] at g0 g1 g2
    obtain ⟨s0, q0, d0, w0⟩ := DataW.trod_int Tryz.underlying2 g0
    obtain ⟨s1, q1, d1, _⟩ := DataW.trod_string Tryz.underlying9 g1
    obtain ⟨c, hc, ok, hd⟩ := trod_cell g2
    simp at q0 q1 hc
    obtain ⟨rfl, rfl, rfl, rfl, rfl⟩ := hc
    subst q0 q1
    refine ⟨⟨s0, s1, c⟩, rfl, ⟨int_bounds w0, ok⟩, ?_⟩
    subst d0 d1
    rw [hxy]
    simp only [List.map, hd]
    rfl

/-! ### slices of structs, whatever their cells -/
set_option maxRecDepth 100000 in
theorem open_structs {H β : Type} [Inhabited β] {enc : TypeId × Value → H} {W : World} {ts e : TypeId} {k : Nat} {encB : β → List Value} {D : β → DataW H} {okB : β → Prop} (hk : ∀ x, (encB x).length = k) (h0 : 0 < k) (hu : Tryz.prog.underlying ts = some (.slice e)) (hc0 : Tryz.prog.cellsOf e = k)
    (hone : ∀ {fuel : Nat} {cs : List Value} {x : DataW H × List MemPlace}, DataW.trod enc Tryz.prog W 0 (fun _ => true) true fuel e cs = some x → ∃ r, cs = encB r ∧ okB r ∧ x.1 = D r)
    {a0 : Option Addr} {len cap : Nat} {d : DataW H} {p : List MemPlace} (h : DataW.Trod enc Tryz.prog W 0 (fun _ => true) true ts (.slice a0 len cap) d p) :
    (a0 = none ∧ len = 0 ∧ cap = 0) ∨ ∃ a l sp, a0 = some a ∧ len = l.length ∧ GRow encB k W (.slice (some a) l.length cap) l ∧ d = .slice (l.map D) sp ∧ ∀ r ∈ l, okB r := by
  obtain ⟨fuel, hf⟩ := h
  rcases open_slice hu hf with ⟨hc, _⟩ | ⟨a, len', cap', m, n, DD, Pl, hc, _, hl, hm, hmm, hx, hall⟩
  · left
    simp [Value.cells] at hc
    exact hc
  · right
    simp [Value.cells] at hc
    obtain ⟨rfl, rfl, rfl⟩ := hc
    have hm' : m = cap := by simpa using hmm
    subst hm'
    have hN : ∀ i, i < len → ∃ x : β, (∀ j u, (encB x)[j]? = some u → W.cell? (a.add (i * k + j)) = some u) ∧ okB x ∧ DD i = D x := by
      intro i hi
      obtain ⟨cs', h1, h2⟩ := hall i (by omega)
      rw [hc0] at h1
      obtain ⟨_, hlen, hcell⟩ := World.cells?_some h1
      obtain ⟨r, hr, hok, hd⟩ := hone h2
      subst hr
      refine ⟨r, fun j u hu => ?_, hok, hd⟩
      have hj : j < k := by rw [← hk r]; exact (List.getElem?_eq_some_iff.1 hu).1
      have e0 := hcell j hj
      rw [add_add] at e0
      rw [e0]
      exact hu
    obtain ⟨f, hfx⟩ := choose_lt hN
    refine ⟨a, (List.range len).map f, (List.range (m - len)).map fun j => DD (len + j), rfl, by simp, ?_, ?_, ?_⟩
    · refine ⟨some a, m, rfl, by simpa using hl, fun hne => ?_⟩
      have hp : 0 < len := by
        rcases Nat.eq_zero_or_pos len with h0 | h0
        · subst h0; exact absurd rfl hne
        · exact h0
      have hl0 : 0 < (encB (f 0)).length := by rw [hk]; exact h0
      have c0 := (hfx 0 hp).1 0 _ (List.getElem?_eq_getElem hl0)
      obtain ⟨b, off, spot⟩ := a
      have hspot : spot = none := by simpa [Addr.add] using World.cell?_spot c0
      subst hspot
      refine ⟨b, off, rfl, ?_, ?_⟩
      · have := World.block_lt_of_cell? _ _ c0
        rw [Go.WideShapes.add_plain] at this
        exact this
      · intro i hi j u hu
        have hi' : i < len := by simpa using hi
        simp only [List.getElem_map, List.getElem_range] at hu
        have := (hfx i hi').1 j u hu
        rw [Go.WideShapes.add_plain, ← Nat.add_assoc] at this
        exact this
    · rw [(Prod.mk.inj hx).1]
      congr 1
      rw [List.map_map]
      apply List.map_congr_left
      intro i hi
      exact (hfx i (List.mem_range.1 hi)).2.2
    · intro r hr
      obtain ⟨i, hi, rfl⟩ := List.mem_map.1 hr
      exact (hfx i (List.mem_range.1 hi)).2.1
theorem open_rows {H : Type} {enc : TypeId × Value → H} {W : World} {a0 : Option Addr} {len cap : Nat} {d : DataW H} {p : List MemPlace} (h : DataW.Trod enc Tryz.prog W 0 (fun _ => true) true 22 (.slice a0 len cap) d p) :
    (a0 = none ∧ len = 0 ∧ cap = 0) ∨ ∃ a l sp, a0 = some a ∧ len = l.length ∧ Rw.RRow W (.slice (some a) l.length cap) l ∧ d = .slice (l.map rowD) sp ∧ ∀ r ∈ l, Rw.okR r :=
  open_structs (encB := Rw.rowC) Rw.rowC_len (by decide) Tryz.underlying22 cellsC29 (fun h => trod_row h) h
theorem open_items {H : Type} {enc : TypeId × Value → H} {W : World} {a0 : Option Addr} {len cap : Nat} {d : DataW H} {p : List MemPlace} (h : DataW.Trod enc Tryz.prog W 0 (fun _ => true) true 40 (.slice a0 len cap) d p) :
    (a0 = none ∧ len = 0 ∧ cap = 0) ∨ ∃ a l sp, a0 = some a ∧ len = l.length ∧ Rw.IRow W (.slice (some a) l.length cap) l ∧ d = .slice (l.map itD) sp ∧ ∀ r ∈ l, Rw.okI r :=
  open_structs (encB := Rw.itC) Rw.itC_len (by decide) Tryz.underlying40 cellsC50 (fun h => trod_item h) h
set_option maxRecDepth 100000 in
/-- Rows that came in: their slice, their cells, their sizes, their bounds. -/
theorem rows_in {H : Type} {enc : TypeId × Value → H} {W : World} {b0 : Nat} {v : Value} {d : DataW H} {p : List MemPlace} {ts : List TypeId} {ds : List (DataW H)} {j : Nat}
    (hv : Value.okWide Tryz.prog W .any b0 22 v) (h : DataW.Trod enc Tryz.prog W 0 (fun _ => true) true 22 v d p) (hz : (DataW.weightsEach Tryz.prog ts ds).all (· ≤ reachBytes) = true) (ht : ts[j]? = some 22) (hd : ds[j]? = some d) :
    ∃ (a : Option Addr) (c : Nat) (l : List Rw.Row), v = .slice a l.length c ∧ Rw.RRow W (.slice a l.length c) l ∧ (∀ r ∈ l, Rw.okR r) ∧ ∀ r ∈ l, r.grp.size ≤ 281474976710656 := by
  obtain ⟨a0, len, cap, rfl⟩ := okWide_slice Tryz.underlying22 hv
  rcases open_rows h with ⟨rfl, rfl, rfl⟩ | ⟨a, l, sp, rfl, rfl, hrow, rfl, hok⟩
  · exact ⟨none, 0, [], rfl, GRow.nil W, (fun r hr => by cases hr), fun r hr => by cases hr⟩
  · refine ⟨some a, cap, l, rfl, hrow, hok, fun r hr => ?_⟩
    have h2 := reachBytes_lt
    have e3 : (2 : Nat) ^ 47 = 140737488355328 := by decide
    have hw : r.grp.data.toList.length ∈ (DataW.slice (l.map rowD) sp : DataW H).weights Tryz.prog 22 := by
      rw [DataW.weights, Tryz.underlying22]
      exact List.mem_cons_of_mem _ (List.mem_append_left _ (weight_in (rowD_weight r) _ (List.mem_map.2 ⟨r, hr, rfl⟩)))
    have h1 := List.all_eq_true.1 hz _ (DataW.weights_mem_each ht hd _ hw)
    simp only [decide_eq_true_eq] at h1
    rw [size_list]
    omega
set_option maxRecDepth 100000 in
theorem items_in {H : Type} {enc : TypeId × Value → H} {W : World} {b0 : Nat} {v : Value} {d : DataW H} {p : List MemPlace} {ts : List TypeId} {ds : List (DataW H)} {j : Nat}
    (hv : Value.okWide Tryz.prog W .any b0 40 v) (h : DataW.Trod enc Tryz.prog W 0 (fun _ => true) true 40 v d p) (hz : (DataW.weightsEach Tryz.prog ts ds).all (· ≤ reachBytes) = true) (ht : ts[j]? = some 40) (hd : ds[j]? = some d) :
    ∃ (a : Option Addr) (c : Nat) (l : List Rw.Item), v = .slice a l.length c ∧ Rw.IRow W (.slice a l.length c) l ∧ (∀ r ∈ l, Rw.okI r) ∧ ∀ r ∈ l, r.key.size ≤ 281474976710656 := by
  obtain ⟨a0, len, cap, rfl⟩ := okWide_slice Tryz.underlying40 hv
  rcases open_items h with ⟨rfl, rfl, rfl⟩ | ⟨a, l, sp, rfl, rfl, hrow, rfl, hok⟩
  · exact ⟨none, 0, [], rfl, GRow.nil W, (fun r hr => by cases hr), fun r hr => by cases hr⟩
  · refine ⟨some a, cap, l, rfl, hrow, hok, fun r hr => ?_⟩
    have h2 := reachBytes_lt
    have e3 : (2 : Nat) ^ 47 = 140737488355328 := by decide
    have hw : r.key.data.toList.length ∈ (DataW.slice (l.map itD) sp : DataW H).weights Tryz.prog 40 := by
      rw [DataW.weights, Tryz.underlying40]
      exact List.mem_cons_of_mem _ (List.mem_append_left _ (weight_in (itD_weight r) _ (List.mem_map.2 ⟨r, hr, rfl⟩)))
    have h1 := List.all_eq_true.1 hz _ (DataW.weights_mem_each ht hd _ hw)
    simp only [decide_eq_true_eq] at h1
    rw [size_list]
    omega

/-! ### texts, matches, a query -/
theorem weight_mem {H : Type} {P : Program} {e : TypeId} (bs : List UInt8) (l : List (DataW H)) (h : DataW.lit (.string bs) ∈ l) : bs.length ∈ DataW.weightsAll P e l := weight_in (weight_text bs) l h
/-- A slice of texts that reads as data: nil, or it holds its texts. -/
theorem open_texts {H : Type} {enc : TypeId × Value → H} {W : World} {a0 : Option Addr} {len cap : Nat} {d : DataW H} {p : List MemPlace}
    (h : DataW.Trod enc Tryz.prog W 0 (fun _ => true) true 37 (.slice a0 len cap) d p) :
    (a0 = none ∧ len = 0 ∧ cap = 0) ∨ ∃ a l r, a0 = some a ∧ len = l.length ∧ Row W (.slice (some a) l.length cap) l ∧ d = .slice (strs l) (strs r) := by
  obtain ⟨fuel, hf⟩ := h
  rcases open_strings Tryz.underlying37 Tryz.underlying9 cellsC9 hf with ⟨hc, _⟩ | ⟨a, len', cap', ss, hc, _, hl, hm, hz, hx, hcell, _⟩
  · left
    simp [Value.cells] at hc
    exact hc
  · right
    simp [Value.cells] at hc
    obtain ⟨rfl, rfl, rfl⟩ := hc
    have hz' : ss.length = cap := by simpa using hz
    have hlen : (ss.take len).length = len := by rw [List.length_take]; omega
    refine ⟨a, ss.take len, ss.drop len, rfl, hlen.symm, ⟨some a, cap, rfl, by omega, fun hne => ?_⟩, (Prod.mk.inj hx).1⟩
    have hpos : 0 < len := by
      rcases Nat.eq_zero_or_pos len with h0 | h0
      · subst h0; exact absurd rfl hne
      · exact h0
    obtain ⟨b, off, spot⟩ := a
    have hspot : spot = none := by simpa [Addr.add] using World.cell?_spot (hcell 0 (by omega))
    subst hspot
    refine ⟨b, off, rfl, ?_, ?_⟩
    · have := World.block_lt_of_cell? _ _ (hcell 0 (by omega))
      rw [add_plain] at this
      exact this
    · intro j x hx
      rw [List.getElem?_take] at hx
      by_cases hj : j < len
      · rw [if_pos hj] at hx
        have h1 := hcell j (by omega)
        rw [add_plain] at h1
        rw [h1, List.getD, hx]
        rfl
      · rw [if_neg hj] at hx; cases hx
/-- A match as it is read. -/
def matD {H : Type} (m : Match) : DataW H := .agg [.lit (.int .i64 m.1), .lit (.string m.2.1.data.toList), .lit (.string m.2.2.data.toList)]
theorem matD_weights {H : Type} (m : Match) : (matD m : DataW H).weights Tryz.prog 118 = [m.2.1.data.toList.length, m.2.2.data.toList.length] := by
  unfold matD
  rw [DataW.weights, Tryz.underlying118]
  simp [DataW.weightsEach, DataW.weights]
theorem weight_mat {H : Type} (t : Match) : ∀ l : List Match, t ∈ l → t.2.1.data.toList.length ∈ DataW.weightsAll Tryz.prog 118 (l.map (matD (H := H))) ∧ t.2.2.data.toList.length ∈ DataW.weightsAll Tryz.prog 118 (l.map (matD (H := H)))
  | u :: r, h => by
    rw [List.map_cons, DataW.weightsAll, List.mem_append, List.mem_append, matD_weights]
    rcases List.mem_cons.1 h with h | h
    · subst h
      exact ⟨Or.inl (by simp), Or.inl (by simp)⟩
    · obtain ⟨h1, h2⟩ := weight_mat (H := H) t r h
      exact ⟨Or.inr h1, Or.inr h2⟩
set_option maxRecDepth 100000 in
/-- A slice of matches that reads as data: nil, or it holds its matches. -/
theorem open_mats {H : Type} {enc : TypeId × Value → H} {W : World} {a0 : Option Addr} {len cap : Nat} {d : DataW H} {p : List MemPlace}
    (h : DataW.Trod enc Tryz.prog W 0 (fun _ => true) true 36 (.slice a0 len cap) d p) :
    (a0 = none ∧ len = 0 ∧ cap = 0) ∨ ∃ a l sp, a0 = some a ∧ len = l.length ∧ MRow W (.slice (some a) l.length cap) l ∧ d = .slice (l.map matD) sp := by
  obtain ⟨fuel, hf⟩ := h
  rcases open_slice Tryz.underlying36 hf with ⟨hc, _⟩ | ⟨a, len', cap', m, n, D, Pl, hc, _, hl, hm, hmm, hx, hall⟩
  · left
    simp [Value.cells] at hc
    exact hc
  · right
    simp [Value.cells] at hc
    obtain ⟨rfl, rfl, rfl⟩ := hc
    have hm' : m = cap := by simpa using hmm
    subst hm'
    have hN : ∀ i, i < len → ∃ x : Match, W.cell? (a.add (i * 3)) = some (.int .i64 x.1) ∧ W.cell? (a.add (i * 3 + 1)) = some (.string x.2.1) ∧ W.cell? (a.add (i * 3 + 2)) = some (.string x.2.2) ∧ D i = (matD x : DataW H) := by
      intro i hi
      obtain ⟨cs', h1, h2⟩ := hall i (by omega)
      rw [cellsC118] at h1
      obtain ⟨_, hlen, hcell⟩ := World.cells?_some h1
      obtain ⟨xs, k, hk, hxy, _, hxl, hfd⟩ := DataW.trod_struct Tryz.underlying118 h2
      match xs, hxl, cs', hlen with
      | [y0, y1, y2], _, [v0, v1, v2], _ =>
        have g0 := hfd 0 _ rfl
        have g1 := hfd 1 _ rfl
        have g2 := hfd 2 _ rfl
        simp [cellsC3, cellsC9] at g0 g1 g2
        have e0 := hcell 0 (by omega)
        have e1 := hcell 1 (by omega)
        have e2 := hcell 2 (by omega)
        rw [add_add] at e0 e1 e2
        simp only [Prod.mk.injEq] at hxy
        obtain ⟨s0, q0, d0, _⟩ := DataW.trod_int Tryz.underlying3 g0
        obtain ⟨s1, q1, d1, _⟩ := DataW.trod_string Tryz.underlying9 g1
        obtain ⟨s2, q2, d2, _⟩ := DataW.trod_string Tryz.underlying9 g2
        simp at q0 q1 q2
        subst q0
        subst q1
        subst q2
        subst d0
        subst d1
        subst d2
        exact ⟨(s0, s1, s2), by simpa using e0, by simpa using e1, by simpa using e2, by rw [hxy.1]; rfl⟩
    obtain ⟨f, hfx⟩ := choose_lt hN
    refine ⟨a, (List.range len).map f, (List.range (m - len)).map fun j => D (len + j), rfl, by simp, ?_, ?_⟩
    · refine ⟨some a, m, rfl, by simpa using hl, fun hne => ?_⟩
      have hp : 0 < len := by
        rcases Nat.eq_zero_or_pos len with h0 | h0
        · subst h0; exact absurd rfl hne
        · exact h0
      obtain ⟨b, off, spot⟩ := a
      have hspot : spot = none := by simpa [Addr.add] using World.cell?_spot (hfx 0 hp).1
      subst hspot
      refine ⟨b, off, rfl, ?_, ?_⟩
      · have := World.block_lt_of_cell? _ _ (hfx 0 hp).1
        rw [Go.WideShapes.add_plain] at this
        exact this
      · intro i hi
        have hi' : i < len := by simpa using hi
        obtain ⟨h0, h1, h2, _⟩ := hfx i hi'
        rw [Go.WideShapes.add_plain] at h0 h1 h2
        simp only [List.getElem_map, List.getElem_range]
        exact ⟨h0, h1, h2⟩
    · rw [(Prod.mk.inj hx).1]
      congr 1
      rw [List.map_map]
      apply List.map_congr_left
      intro i hi
      exact (hfx i (List.mem_range.1 hi)).2.2.2
set_option maxRecDepth 100000 in
/-- A query by value that reads as data. -/
theorem open_query {H : Type} {enc : TypeId × Value → H} {W : World} {b0 : Nat} {v : Value} {d : DataW H} {p : List MemPlace}
    (hv : Value.okWide Tryz.prog W .any b0 39 v) (h : DataW.Trod enc Tryz.prog W 0 (fun _ => true) true 39 v d p) :
    ∃ (q : Query) (a b : Option Addr) (c e : Nat) (D E : DataW H), v = .agg #[.int .i64 q.1, .string q.2.1, .slice a q.2.2.1.length c, .slice b q.2.2.2.length e] ∧ MRow W (.slice a q.2.2.1.length c) q.2.2.1 ∧ Row W (.slice b q.2.2.2.length e) q.2.2.2 ∧ d = .agg [.lit (.int .i64 q.1), .lit (.string q.2.1.data.toList), D, E] ∧ (q.2.2.1 = [] ∨ ∃ sp, D = .slice (q.2.2.1.map matD) sp) ∧ (q.2.2.2 = [] ∨ ∃ r, E = .slice (strs q.2.2.2) (strs r)) := by
  obtain ⟨v0, v1, v2, v3, y0, y1, y2, y3, n, rfl, rfl, rfl, h0, h1, h2, h3⟩ := open_agg4 Tryz.underlying39 (by kernel_rfl) cellsC39 hv h
  obtain ⟨g, e0, rfl, _⟩ := DataW.trod_int Tryz.underlying3 h0
  obtain ⟨s, e1, rfl, _⟩ := DataW.trod_string Tryz.underlying9 h1
  simp at e0 e1
  subst e0
  subst e1
  have f2 : ∃ a0 len cap, v2 = .slice a0 len cap := by
    rcases open_slice Tryz.underlying36 h2 with ⟨hc, _⟩ | ⟨a, len', cap', m, n, D, Pl, hc, _⟩
    · simp at hc
      exact ⟨_, _, _, hc⟩
    · simp at hc
      exact ⟨_, _, _, hc⟩
  have f3 : ∃ a0 len cap, v3 = .slice a0 len cap := by
    rcases open_slice Tryz.underlying37 h3 with ⟨hc, _⟩ | ⟨a, len', cap', m, n, D, Pl, hc, _⟩
    · simp at hc
      exact ⟨_, _, _, hc⟩
    · simp at hc
      exact ⟨_, _, _, hc⟩
  obtain ⟨a0, len, cap, rfl⟩ := f2
  obtain ⟨a1, len1, cap1, rfl⟩ := f3
  have hT : DataW.Trod enc Tryz.prog W 0 (fun _ => true) true 36 (.slice a0 len cap) y2.1 y2.2 := ⟨n, h2⟩
  have hS : DataW.Trod enc Tryz.prog W 0 (fun _ => true) true 37 (.slice a1 len1 cap1) y3.1 y3.2 := ⟨n, h3⟩
  have k2 : ∃ (a : Option Addr) (l : List Match) (c : Nat), a0 = a ∧ len = l.length ∧ cap = c ∧ MRow W (.slice a l.length c) l ∧ (l = [] ∨ ∃ sp, y2.1 = .slice (l.map matD) sp) := by
    rcases open_mats hT with ⟨rfl, rfl, rfl⟩ | ⟨a, l, sp, rfl, rfl, hrow, hd⟩
    · exact ⟨none, [], 0, rfl, rfl, rfl, MRow.nil W, Or.inl rfl⟩
    · exact ⟨some a, l, cap, rfl, rfl, rfl, hrow, Or.inr ⟨sp, hd⟩⟩
  have k3 : ∃ (a : Option Addr) (l : List ByteArray) (c : Nat), a1 = a ∧ len1 = l.length ∧ cap1 = c ∧ Row W (.slice a l.length c) l ∧ (l = [] ∨ ∃ r, y3.1 = .slice (strs l) (strs r)) := by
    rcases open_texts hS with ⟨rfl, rfl, rfl⟩ | ⟨a, l, r, rfl, rfl, hrow, hd⟩
    · exact ⟨none, [], 0, rfl, rfl, rfl, Row.nil W, Or.inl rfl⟩
    · exact ⟨some a, l, cap1, rfl, rfl, rfl, hrow, Or.inr ⟨r, hd⟩⟩
  obtain ⟨a, l, c, rfl, rfl, rfl, r2, j2⟩ := k2
  obtain ⟨b, l', c', rfl, rfl, rfl, r3, j3⟩ := k3
  exact ⟨(g, s, l, l'), _, _, _, _, y2.1, y3.1, rfl, r2, r3, rfl, j2, j3⟩
theorem sized_query {H : Type} {ts : List TypeId} {ds : List (DataW H)} (h : (DataW.weightsEach Tryz.prog ts ds).all (· ≤ reachBytes) = true) {j : Nat} {q : Query} {D E : DataW H}
    (ht : ts[j]? = some 39) (hd : ds[j]? = some (.agg [.lit (.int .i64 q.1), .lit (.string q.2.1.data.toList), D, E])) (hD : q.2.2.1 = [] ∨ ∃ sp, D = .slice (q.2.2.1.map matD) sp) (hE : q.2.2.2 = [] ∨ ∃ r, E = .slice (strs q.2.2.2) (strs r)) :
    q.2.1.size ≤ 281474976710656 ∧ (∀ x ∈ q.2.2.1, x.2.1.size ≤ 281474976710656 ∧ x.2.2.size ≤ 281474976710656) ∧ ∀ x ∈ q.2.2.2, x.size ≤ 281474976710656 := by
  have h2 := reachBytes_lt
  have e3 : (2 : Nat) ^ 47 = 140737488355328 := by decide
  have hm : ∀ n, n ∈ (DataW.agg [.lit (.int .i64 q.1), .lit (.string q.2.1.data.toList), D, E] : DataW H).weights Tryz.prog 39 → n ≤ 281474976710656 := by
    intro n hn
    have h1 := List.all_eq_true.1 h _ (DataW.weights_mem_each ht hd _ hn)
    simp only [decide_eq_true_eq] at h1
    omega
  have hw : (DataW.agg [.lit (.int .i64 q.1), .lit (.string q.2.1.data.toList), D, E] : DataW H).weights Tryz.prog 39 = q.2.1.data.toList.length :: (D.weights Tryz.prog 36 ++ E.weights Tryz.prog 37) := by
    rw [DataW.weights, Tryz.underlying39]
    simp [DataW.weightsEach, DataW.weights]
  rw [hw] at hm
  refine ⟨by rw [size_list]; exact hm _ (by simp), ?_, ?_⟩
  · intro x hx
    rcases hD with h0 | ⟨sp, rfl⟩
    · rw [h0] at hx; cases hx
    · obtain ⟨m1, m2⟩ := weight_mat (H := H) x q.2.2.1 hx
      have hs : ∀ n, n ∈ DataW.weightsAll Tryz.prog 118 (q.2.2.1.map (matD (H := H))) → n ∈ (DataW.slice (q.2.2.1.map matD) sp : DataW H).weights Tryz.prog 36 := by
        intro n hn
        rw [DataW.weights, Tryz.underlying36]
        exact List.mem_cons_of_mem _ (List.mem_append_left _ hn)
      rw [size_list, size_list]
      exact ⟨hm _ (List.mem_cons_of_mem _ (List.mem_append_left _ (hs _ m1))), hm _ (List.mem_cons_of_mem _ (List.mem_append_left _ (hs _ m2)))⟩
  · intro x hx
    rcases hE with h0 | ⟨r, rfl⟩
    · rw [h0] at hx; cases hx
    · have hs : x.data.toList.length ∈ (DataW.slice (strs q.2.2.2) (strs r) : DataW H).weights Tryz.prog 37 := by
        rw [DataW.weights, Tryz.underlying37]
        refine List.mem_cons_of_mem _ (List.mem_append_left _ (weight_mem _ _ ?_))
        exact List.mem_map.2 ⟨x, hx, rfl⟩
      rw [size_list]
      exact hm _ (List.mem_cons_of_mem _ (List.mem_append_right _ hs))

end Go.Proofs.YtidkpalckafgkaaGreatDoor
