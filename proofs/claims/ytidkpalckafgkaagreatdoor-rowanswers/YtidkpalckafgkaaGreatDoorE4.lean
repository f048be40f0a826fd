/- A map of places: what it holds. -/
import Derived.Test.YtidkpalckafgkaaGreatDoorE3B
import Derived.Maps.OwnSet
import Derived.Maps.OwnOps
import Derived.Maps.RangeWalk
import Derived.Maps.Ext
import Derived.DeepKeys4
namespace Go.Proofs.YtidkpalckafgkaaGreatDoor.Rw
open Go Go.RowKit Go.Sort Go.Lib Tg Pk Ky Qy

set_option maxRecDepth 100000 in
theorem row71 : (71 : TypeId) < Tryz.prog.types.size := of_decide_eq_true (by kernel_rfl)
set_option maxRecDepth 100000 in
theorem wide71 : (match Tryz.prog.underlying 71 with | some (.array _ _) | some (.struct _) => true | _ => false) = true := by rw [Tryz.underlying71]
set_option maxRecDepth 100000 in
theorem laidR : laidOutB Tryz.prog = true := by kernel_rfl
set_option maxRecDepth 100000 in
theorem klaw : Maps.Keyed Tryz.prog 71 := Maps.Keyed.of_law (deep_law_laid laidR (m := 2) (by omega) row71 (by kernel_rfl) wide71)
set_option maxRecDepth 100000 in
theorem key71 : Tryz.prog.keyType 71 = true := by kernel_rfl
set_option maxRecDepth 100000 in
theorem cells71 : Tryz.prog.cellsOf 71 = 2 := by kernel_rfl
set_option maxRecDepth 100000 in
theorem cells2 : Tryz.prog.cellsOf 2 = 1 := by kernel_rfl
set_option maxRecDepth 100000 in
theorem cells9 : Tryz.prog.cellsOf 9 = 1 := by kernel_rfl
def klit (x : Int) (g : ByteArray) : Lit := .string (keyBytes [.int .i64 x, .string g.data.toList])
def okP (x : Int) (g : ByteArray) : Prop := (Lit.int .i64 x).wf = true ∧ g.size ≤ maxLen
theorem lits_pair {P : Program} {t i s : TypeId} {f1 f2 : Field} (ht : P.underlying t = some (.struct #[f1, f2])) (e1 : f1.type = i) (e2 : f2.type = s) (o1 : f1.offset = 0) (o2 : f2.offset = 1) (n1 : (f1.name != "_") = true) (n2 : (f2.name != "_") = true)
    (hi : P.underlying i = some (.int .i64)) (hs : P.underlying s = some .string) (ct : P.cellsOf t = 2) (ci : P.cellsOf i = 1) (cs : P.cellsOf s = 1) (d : Nat) (l : List Value) (ls : List Lit) :
    P.keyLits (d + 2) t l = some ls ↔ ∃ x g, l = [.int .i64 x, .string g] ∧ ((Lit.int .i64 x).wf = true ∧ g.size ≤ maxLen) ∧ ls = [.int .i64 x, .string g.data.toList] := by
  have hlit : ∀ v la, P.keyLits (d + 1) i [v] = some la ↔ ∃ x, v = .int .i64 x ∧ (Lit.int .i64 x).wf = true ∧ la = [.int .i64 x] := by
    intro v la
    unfold Program.keyLits
    rw [hi]
    cases v with
    | int q x =>
      simp only
      by_cases h : q = .i64 ∧ (Lit.int .i64 x).wf = true
      · rw [if_pos h]
        obtain ⟨rfl, h2⟩ := h
        constructor
        · intro e; cases e; exact ⟨x, rfl, h2, rfl⟩
        · rintro ⟨y, e, -, rfl⟩; cases e; rfl
      · rw [if_neg h]
        constructor
        · intro e; cases e
        · rintro ⟨y, e, h2, -⟩; cases e; exact absurd ⟨rfl, h2⟩ h
    | _ => simp
  have hstr : ∀ v la, P.keyLits (d + 1) s [v] = some la ↔ ∃ g, v = .string g ∧ g.size ≤ maxLen ∧ la = [.string g.data.toList] := by
    intro v la
    unfold Program.keyLits
    rw [hs]
    cases v with
    | string g =>
      simp only
      by_cases h : g.size ≤ maxLen
      · rw [if_pos h]
        constructor
        · intro e; cases e; exact ⟨g, rfl, h, rfl⟩
        · rintro ⟨y, e, -, rfl⟩; cases e; rfl
      · rw [if_neg h]
        constructor
        · intro e; cases e
        · rintro ⟨y, e, h2, -⟩; cases e; exact absurd h2 h
    | _ => simp
  unfold Program.keyLits
  rw [ht]
  simp only [ct]
  constructor
  · intro h
    split at h
    · rename_i hc
      match l, hc.1, h with
      | [a, b], _, h =>
        simp [e1, e2, o1, o2, ci, cs, Option.bind_eq_some_iff, hlit, hstr] at h
        obtain ⟨la, ⟨x, rfl, h1, rfl⟩, lb, ⟨lc, ⟨g, rfl, h2, rfl⟩, rfl⟩, rfl⟩ := h
        exact ⟨x, g, rfl, ⟨h1, h2⟩, rfl⟩
    · cases h
  · rintro ⟨x, g, rfl, ⟨h1, h2⟩, rfl⟩
    rw [if_pos ⟨rfl, by simp [n1, n2]⟩]
    simp [e1, e2, o1, o2, ci, cs, (hlit (.int .i64 x) _).2 ⟨x, rfl, h1, rfl⟩, (hstr (.string g) _).2 ⟨g, rfl, h2, rfl⟩]
theorem keyOf_pair {P : Program} {t i s : TypeId} {f1 f2 : Field} (ht : P.underlying t = some (.struct #[f1, f2])) (e1 : f1.type = i) (e2 : f2.type = s) (o1 : f1.offset = 0) (o2 : f2.offset = 1) (n1 : (f1.name != "_") = true) (n2 : (f2.name != "_") = true)
    (hi : P.underlying i = some (.int .i64)) (hs : P.underlying s = some .string) (ct : P.cellsOf t = 2) (ci : P.cellsOf i = 1) (cs : P.cellsOf s = 1) (hk : P.keyType t = true) {n : Nat} (hz : P.types.size = n + 1) (v : Value) (k : Lit) :
    keyOf P t v = some k ↔ ∃ x g, v = .agg #[.int .i64 x, .string g] ∧ okP x g ∧ k = klit x g := by
  unfold keyOf
  rw [ht]
  simp only [hk, Bool.true_and, hz]
  constructor
  · intro h
    split at h
    · rename_i hf
      obtain ⟨ls, hls, rfl⟩ := Option.map_eq_some_iff.1 h
      obtain ⟨x, g, hc, hp, rfl⟩ := (lits_pair ht e1 e2 o1 o2 n1 n2 hi hs ct ci cs n v.cells.toList ls).1 hls
      refine ⟨x, g, ?_, hp, rfl⟩
      cases v <;> simp [Value.formed, ht] at hf
      rename_i a
      simp [Value.cells] at hc
      rw [← Array.toList_inj.1 (show a.toList = (#[Value.int .i64 x, Value.string g] : Array Value).toList from hc)]
    · cases h
  · rintro ⟨x, g, rfl, hp, rfl⟩
    rw [if_pos (by simp [Value.formed, ht, ct])]
    show Option.map _ (P.keyLits (n + 2) t [.int .i64 x, .string g]) = _
    rw [(lits_pair ht e1 e2 o1 o2 n1 n2 hi hs ct ci cs n _ _).2 ⟨x, g, rfl, hp, rfl⟩]
    rfl
set_option maxRecDepth 100000 in
theorem size255 : Tryz.prog.types.size = 254 + 1 := by kernel_rfl
theorem keyOf_at (v : Value) (k : Lit) : keyOf Tryz.prog 71 v = some k ↔ ∃ x g, v = .agg #[.int .i64 x, .string g] ∧ okP x g ∧ k = klit x g :=
  keyOf_pair Tryz.underlying71 rfl rfl rfl rfl rfl rfl Tryz.underlying2 Tryz.underlying9 cells71 cells2 cells9 key71 size255 v k
theorem keyOf_place {x : Int} {g : ByteArray} (h : okP x g) : keyOf Tryz.prog 71 (.agg #[.int .i64 x, .string g]) = some (klit x g) := (keyOf_at _ _).2 ⟨x, g, rfl, h, rfl⟩
theorem keyOf_place_inv {v : Value} {k : Lit} (h : keyOf Tryz.prog 71 v = some k) : ∃ x g, v = .agg #[.int .i64 x, .string g] ∧ okP x g ∧ k = klit x g := (keyOf_at _ _).1 h
theorem klit_key (x : Int) (g : ByteArray) : WideAt.IsKeyLit (klit x g) := trivial
theorem klit_inj {x y : Int} {g h : ByteArray} (hx : okP x g) (hy : okP y h) (he : klit x g = klit y h) : x = y ∧ g = h := by
  have h1 := keyOf_place hx
  have h2 := keyOf_place hy
  rw [← he] at h2
  have := klaw.inj h1 h2
  simp at this
  exact this

/-- A cell in a map. -/
def cV (c : Cl.Cell) : Value := .agg #[.int .i64 c.cnt, .int .i64 c.sn, .bool c.so, .int .i64 c.mn, .int .i64 c.mx]
def cD (c : Cl.Cell) : DataW Unit := .agg [.lit (.int .i64 c.cnt), .lit (.int .i64 c.sn), .lit (.bool c.so), .lit (.int .i64 c.mn), .lit (.int .i64 c.mx)]
theorem cV_inj {a b : Cl.Cell} (h : cV a = cV b) : a = b := by
  obtain ⟨a1, a2, a3, a4, a5⟩ := a
  obtain ⟨b1, b2, b3, b4, b5⟩ := b
  simp [cV] at h
  obtain ⟨rfl, rfl, rfl, rfl, rfl⟩ := h
  rfl
theorem cD_inj {a b : Cl.Cell} (h : cD a = cD b) : a = b := by
  obtain ⟨a1, a2, a3, a4, a5⟩ := a
  obtain ⟨b1, b2, b3, b4, b5⟩ := b
  simp [cD] at h
  obtain ⟨rfl, rfl, rfl, rfl, rfl⟩ := h
  rfl
open Classical in
noncomputable def cR (v : Value) : Option (DataW Unit × List MemPlace) := if h : ∃ c, v = cV c then some (cD h.choose, []) else none
theorem cR_mk (c : Cl.Cell) : cR (cV c) = some (cD c, []) := by
  unfold cR
  have h : ∃ d, cV c = cV d := ⟨c, rfl⟩
  rw [dif_pos h, ← cV_inj h.choose_spec]
theorem cR_inv {v : Value} {y : DataW Unit × List MemPlace} (h : cR v = some y) : ∃ c, v = cV c ∧ y = (cD c, []) := by
  unfold cR at h
  split at h
  · rename_i hc
    obtain ⟨c, rfl⟩ := hc
    refine ⟨c, rfl, ?_⟩
    have h' : ∃ d, cV c = cV d := ⟨c, rfl⟩
    rw [← cV_inj h'.choose_spec] at h
    simpa using h.symm
  · cases h

/-- What a map of places holds is what a list of parts says. -/
def Says (D : DataW Unit) (L : List Item) : Prop := ∀ x g, okP x g → ∀ z, D.atKey (klit x g) z = match look L x g with | some c => cD c | none => z
def MapOf (w : World) (b n : Nat) (L : List Item) : Prop := ∃ D, w.ownsMap Tryz.prog 71 cR b n D ∧ Says D L
theorem says_nil : Says (.map []) [] := by
  intro x g _ z
  rw [look_nil]
  rfl
theorem MapOf.made (w : World) : MapOf (w.alloc (.map #[] 0)) w.heap.size 0 [] := ⟨_, World.ownsMap_made w _ _ _, says_nil⟩
theorem MapOf.on {w w1 : World} {b n : Nat} {L : List Item} (h : MapOf w b n L) (d : Below w.heap.size w w1) : MapOf w1 b n L := by
  obtain ⟨D, ho, hs⟩ := h
  refine ⟨D, ?_, hs⟩
  obtain ⟨es, clock, hb, F, hz, hD⟩ := ho
  exact ⟨es, clock, (d.block b (Array.getElem?_eq_some_iff.1 hb).1).trans hb, F, hz, hD⟩
theorem MapOf.lt {w : World} {b n : Nat} {L : List Item} (h : MapOf w b n L) : b < w.heap.size := by
  obtain ⟨D, ho, -⟩ := h
  exact ho.lt
set_option maxRecDepth 100000 in
theorem zero48 (w : World) : (zeroValue 48).run Tryz.prog w = .ok (cV Cl.zero) w := by kernel_rfl
def gotC (o : Option Cl.Cell) : Cl.Cell := match o with | some c => c | none => Cl.zero
theorem MapOf.look {w : World} {b n : Nat} {L : List Item} (h : MapOf w b n L) {x : Int} {g : ByteArray} (hp : okP x g) :
    (Instr.lookup 68 (.map (some b)) (.agg #[.int .i64 x, .string g]) false).run Tryz.prog w = .ok (cV (gotC (Rw.look L x g))) w := by
  obtain ⟨D, ho, hs⟩ := h
  obtain ⟨v, ps, hrun, hv⟩ := ho.lookup klaw Tryz.underlying68 (zero48 w) (cR_mk _) (keyOf_place hp)
  obtain ⟨c, rfl, hy⟩ := cR_inv hv
  rw [hrun]
  have := hs x g hp (cD Cl.zero)
  simp at hy
  rw [hy.1] at this
  unfold gotC
  cases hl : Rw.look L x g with
  | none => rw [hl] at this; rw [cD_inj this]
  | some c' => rw [hl] at this; rw [cD_inj this]
theorem at_same (x : Int) (g : ByteArray) (c : Cl.Cell) : at' x g ⟨x, g, c⟩ = true := (at_true x g _).2 ⟨rfl, rfl⟩
theorem at_else {x y : Int} {g h : ByteArray} (c : Cl.Cell) (hn : ¬ (x = y ∧ g = h)) : at' y h ⟨x, g, c⟩ = false := by
  cases e : at' y h ⟨x, g, c⟩
  · rfl
  · exact absurd ((at_true y h _).1 e) hn
theorem says_put {D : DataW Unit} {L : List Item} (hD : Maps.IsMap D) (hL : Strict L) (hs : Says D L) {x : Int} {g : ByteArray} (hp : okP x g) {c : Cl.Cell} (hc : ¬ c.cnt < 1) : Says (D.put (klit x g) (cD (Cl.mergeL [gotC (look L x g), c]))) (putP L ⟨x, g, c⟩) := by
  have hm : cD (Cl.mergeL [gotC (look L x g), c]) = (match acc (look L x g) c with | some c => cD c | none => cD c) := by
    unfold acc gotC Cl.mergeL
    cases look L x g with
    | none => simp only [List.foldl_cons, List.foldl_nil]; rw [Cl.two_b (b := Cl.zero) (by decide), Cl.two_a hc (by decide)]
    | some d =>
      simp only [List.foldl_cons, List.foldl_nil]
      by_cases hd : d.cnt < 1
      · rw [Cl.two_b hd, Cl.two_a hc hd, Cl.two_a hc (by decide)]
      · rw [Cl.two_a hd (by decide)]
  intro y h hq z
  rw [look_put L ⟨x, g, c⟩ y h hL]
  by_cases e : x = y ∧ g = h
  · obtain ⟨rfl, rfl⟩ := e
    rw [at_same, if_pos rfl, Maps.atKey_put_same hD (klit_key x g), hm]
    rfl
  · rw [at_else c e, if_neg (by simp), Maps.atKey_put_other (fun e' => e (by obtain ⟨a, b⟩ := klit_inj hq hp e'; exact ⟨a.symm, b.symm⟩))]
    exact hs y h hq z

/-- 'm[at] = Merge(m[at], c)': the world behind it. -/
theorem MapOf.store {w : World} {b n : Nat} {L : List Item} (h : MapOf w b n L) (hn : n < maxLen) (hL : Strict L) {x : Int} {g : ByteArray} (hp : okP x g) {c : Cl.Cell} (hc : ¬ c.cnt < 1) :
    ∃ w', (Instr.mapUpdate 68 (.map (some b)) (.agg #[.int .i64 x, .string g]) (cV (Cl.mergeL [gotC (Rw.look L x g), c]))).run Tryz.prog w = .ok () w' ∧ MapOf w' b (n + 1) (putP L ⟨x, g, c⟩) ∧ w.grownBy w' (some b) := by
  obtain ⟨D, ho, hs⟩ := h
  obtain ⟨w', hrun, ho', hg⟩ := ho.update klaw Tryz.underlying68 hn (keyOf_place hp) (cR_mk (Cl.mergeL [gotC (Rw.look L x g), c]))
  exact ⟨w', hrun, ⟨_, ho', says_put ho.isMap hL hs hp hc⟩, hg⟩

end Go.Proofs.YtidkpalckafgkaaGreatDoor.Rw
