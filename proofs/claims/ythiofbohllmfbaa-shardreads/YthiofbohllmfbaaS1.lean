/- Shards in memory: entries that came in, entries that the call made; drops and items. -/
import Derived.Test.YthiofbohllmfbaaV7
import Derived.Test.YthiofbohllmfbaaM10
import Derived.OneCell
namespace Go.Proofs.Ythiofbohllmfbaa.Sh
open Go Go.RowKit Go.Sort Go.Lib Cl Ce Ch

/-- An entry as it lies: the slice that holds its versions is told beside them. -/
structure Raw where
  win : Int
  key : ByteArray
  sl : Value
  vs : List Ver
def abs (r : Raw) : Ent := ⟨r.win, r.key, r.vs⟩
def rawC (r : Raw) : List Value := [.int .i64 r.win, .string r.key, r.sl]
theorem rawC_len (r : Raw) : (rawC r).length = 3 := rfl
theorem vrow_one {w : World} {v : Value} {l : List Ver} (h : VRow w v l) : v.oneCell' = true := by
  obtain ⟨a, c, rfl, -, -⟩ := h; rfl
theorem rawC_one {w : World} (r : Raw) (h : VRow w r.sl r.vs) : ∀ x ∈ rawC r, x.oneCell' = true := by
  intro x hx
  simp [rawC] at hx
  rcases hx with rfl | rfl | rfl
  · rfl
  · rfl
  · exact vrow_one h
theorem raws_one {w : World} {rs : List Raw} (h : ∀ r ∈ rs, VRow w r.sl r.vs) : ∀ u ∈ flatG rawC rs, u.oneCell' = true := by
  intro u hu
  obtain ⟨r, hr, hu⟩ := List.mem_flatMap.1 hu
  exact rawC_one r (h r hr) u hu
/-- The value v is a slice that holds the entries l. -/
def SRow (w : World) (v : Value) (l : List Ent) : Prop := ∃ rs : List Raw, GRow rawC 3 w v rs ∧ rs.map abs = l ∧ ∀ r ∈ rs, VRow w r.sl r.vs
theorem SRow.on {w w1 : World} {v : Value} {l : List Ent} (h : SRow w v l) (n : Below w.heap.size w w1) : SRow w1 v l := by
  obtain ⟨rs, h1, h2, h3⟩ := h
  exact ⟨rs, h1.on n, h2, fun r hr => (h3 r hr).on n⟩
theorem SRow.nil (w : World) : SRow w (.slice none 0 0) [] := ⟨[], GRow.nil w, rfl, fun r hr => by simp at hr⟩
/-- The k-th entry as it lies. -/
def SLies (w : World) (b o : Nat) (l : List Ent) : Prop := ∀ k (h : k < l.length), ∃ sl, w.cell? ⟨b, o + k * 3, none⟩ = some (.int .i64 (l[k]).win) ∧ w.cell? ⟨b, o + k * 3 + 1, none⟩ = some (.string (l[k]).key) ∧ w.cell? ⟨b, o + k * 3 + 2, none⟩ = some sl ∧ VRow w sl (l[k]).vs
theorem SLies.on {w w1 : World} {b o : Nat} {l : List Ent} (h : SLies w b o l) (hb : b < w.heap.size) (n : Below w.heap.size w w1) : SLies w1 b o l := by
  intro k hk
  obtain ⟨sl, h0, h1, h2, h3⟩ := h k hk
  refine ⟨sl, ?_, ?_, ?_, h3.on n⟩
  · rw [n.cell (p := ⟨b, o + k * 3, none⟩) hb]; exact h0
  · rw [n.cell (p := ⟨b, o + k * 3 + 1, none⟩) hb]; exact h1
  · rw [n.cell (p := ⟨b, o + k * 3 + 2, none⟩) hb]; exact h2
def SAt (w : World) (a : Option Addr) (l : List Ent) : Prop := l ≠ [] → ∃ b o, a = some ⟨b, o, none⟩ ∧ b < w.heap.size ∧ SLies w b o l
theorem SAt.on {w w1 : World} {a : Option Addr} {l : List Ent} (h : SAt w a l) (n : Below w.heap.size w w1) : SAt w1 a l := by
  intro hne
  obtain ⟨b, o, ha, hb, hL⟩ := h hne
  exact ⟨b, o, ha, Nat.lt_of_lt_of_le hb n.size, hL.on hb n⟩
theorem SRow.at {w : World} {v : Value} {l : List Ent} (h : SRow w v l) : ∃ a c, v = .slice a l.length c ∧ l.length ≤ c ∧ SAt w a l := by
  obtain ⟨rs, ⟨a, c, hv, hc, hl⟩, rfl, h3⟩ := h
  refine ⟨a, c, by rw [List.length_map]; exact hv, by rw [List.length_map]; exact hc, fun hne => ?_⟩
  obtain ⟨b, o, ha, hb, hL⟩ := hl (fun e => by subst e; exact hne rfl)
  refine ⟨b, o, ha, hb, fun k hk => ?_⟩
  have hk' : k < rs.length := by simpa using hk
  refine ⟨(rs[k]).sl, ?_, ?_, hL k hk' 2 _ rfl, ?_⟩
  · rw [List.getElem_map]; exact hL k hk' 0 _ rfl
  · rw [List.getElem_map]; exact hL k hk' 1 _ rfl
  · rw [List.getElem_map]; exact h3 _ (List.getElem_mem hk')
theorem SRow.take {w : World} {a : Option Addr} {n c : Nat} {l : List Ent} (h : SRow w (.slice a n c) l) (j : Nat) (hj : j ≤ l.length) : SRow w (.slice a j c) (l.take j) := by
  obtain ⟨rs, hg, rfl, h3⟩ := h
  obtain ⟨a', c', e, hc, hl⟩ := hg
  cases e
  rw [List.length_map] at hj
  refine ⟨rs.take j, ?_, by rw [List.map_take], fun r hr => h3 r (List.mem_of_mem_take hr)⟩
  exact grow_head (n := j) ⟨a, c, rfl, hc, hl⟩ hj
theorem SRow.drop {w : World} {a : Option Addr} {c : Nat} {l : List Ent} (h : SRow w (.slice a l.length c) l) (j : Nat) : SRow w (.slice (if c = j then a else a.map (·.add (j * 3))) (l.length - j) (c - j)) (l.drop j) := by
  obtain ⟨rs, hg, rfl, h3⟩ := h
  obtain ⟨a', c', e, hc, hl⟩ := hg
  rw [List.length_map] at e ⊢
  cases e
  exact ⟨rs.drop j, grow_tail ⟨a, c, rfl, hc, hl⟩ j, by rw [List.map_drop], fun r hr => h3 r (List.mem_of_mem_drop hr)⟩

/-! ### what the call made -/
/-- Versions that no append to a slice of entries can reach: of old, or in a block of versions. -/
def VSafe (base : Nat) (w : World) (sl : Value) (vs : List Ver) : Prop := VRow w sl vs ∧ (vs ≠ [] → ∀ b, sl.ownBlock = some b → b < base ∨ ∃ cur, w.heap[b]? = some (.cells cur 81 (0, 0)))
theorem vsafe_nil (base : Nat) (w : World) : VSafe base w (.slice none 0 0) [] := ⟨GRow.nil w, fun h => absurd rfl h⟩
theorem vsafe_old {base : Nat} {w0 w : World} {sl : Value} {vs : List Ver} (h : VRow w0 sl vs) (hb : w0.heap.size = base) (n : Below base w0 w) : VSafe base w sl vs := by
  subst hb
  refine ⟨h.on n, fun hne b hb => Or.inl ?_⟩
  obtain ⟨b', o, c, hv, _, hlt, _⟩ := h.open hne
  subst hv
  simp [Value.ownBlock] at hb
  omega
theorem vsafe_own {base B : Nat} {w : World} {sl : Value} {vs : List Ver} (h : w.ownsRow B 81 6 sl vs.length (flatG verC vs)) : VSafe base w sl vs := by
  refine ⟨ownG_row verC_len h, fun hne b hb => Or.inr ?_⟩
  rcases h.2 with ⟨h0, h1⟩ | ⟨g, cap, cur, hv, _, hg, _⟩
  · exact absurd (List.length_eq_zero_iff.1 h1) hne
  · subst hv
    simp [Value.ownBlock] at hb
    subst hb
    exact ⟨cur, hg⟩
theorem vsafe_lt {base : Nat} {w : World} {sl : Value} {vs : List Ver} (h : VSafe base w sl vs) (hne : vs ≠ []) : ∀ b, sl.ownBlock = some b → b < w.heap.size := by
  intro b hb
  obtain ⟨b', o, c, hv, _, hlt, _⟩ := h.1.open hne
  subst hv
  simp [Value.ownBlock] at hb
  omega
theorem VSafe.on {base : Nat} {w w1 : World} {sl : Value} {vs : List Ver} (h : VSafe base w sl vs) (n : Below w.heap.size w w1) : VSafe base w1 sl vs := by
  refine ⟨h.1.on n, fun hne b hb => ?_⟩
  rcases h.2 hne b hb with h1 | ⟨cur, h1⟩
  · exact Or.inl h1
  · exact Or.inr ⟨cur, by rw [n.block b (vsafe_lt h hne b hb)]; exact h1⟩
/-- Behind an append to a slice of entries. -/
theorem VSafe.grown {b1 base : Nat} {w w1 : World} {sl v : Value} {vs : List Ver} {n : Nat} {xs : List Value} (h : VSafe b1 w sl vs) (hle : b1 ≤ base) (ho : w.ownsRow base 59 3 v n xs) (hg : w.grownBy w1 v.ownBlock) : VSafe b1 w1 sl vs := by
  have key : vs ≠ [] → ∀ b, sl.ownBlock = some b → w1.heap[b]? = w.heap[b]? := by
    intro hne b hb
    refine hg.block b (vsafe_lt h hne b hb) (fun e => ?_)
    rcases ho.2 with ⟨rfl, _⟩ | ⟨g, cap, cur, rfl, hbg, hcur, _⟩
    · simp [Value.ownBlock] at e
    · simp [Value.ownBlock] at e
      subst e
      rcases h.2 hne b hb with h1 | ⟨cur', h1⟩
      · omega
      · rw [h1] at hcur; injection hcur with e1; injection e1 with _ e2; exact absurd e2 (by decide)
  refine ⟨?_, fun hne b hb => ?_⟩
  · obtain ⟨a, c, hv, hc, hl⟩ := h.1
    refine ⟨a, c, hv, hc, fun hne => ?_⟩
    obtain ⟨b, o, ha, hb, hL⟩ := hl hne
    have hk := key hne b (by rw [hv, ha]; rfl)
    refine ⟨b, o, ha, Nat.lt_of_lt_of_le hb hg.size, fun i hi j u hu => ?_⟩
    rw [World.cell?_of_block (a := ⟨b, o + i * 6 + j, none⟩) hk]
    exact hL i hi j u hu
  · rcases h.2 hne b hb with h1 | ⟨cur, h1⟩
    · exact Or.inl h1
    · exact Or.inr ⟨cur, by rw [key hne b hb]; exact h1⟩
/-- The value v is a slice of entries that the call made, in a block from base on; what lies below b1 is of old. -/
def OwnS (b1 base : Nat) (w : World) (v : Value) (l : List Ent) : Prop := ∃ rs : List Raw, w.ownsRow base 59 3 v rs.length (flatG rawC rs) ∧ rs.map abs = l ∧ ∀ r ∈ rs, VSafe b1 w r.sl r.vs
theorem OwnS.row {b1 base : Nat} {w : World} {v : Value} {l : List Ent} (h : OwnS b1 base w v l) : SRow w v l := by
  obtain ⟨rs, h1, h2, h3⟩ := h
  exact ⟨rs, ownG_row rawC_len h1, h2, fun r hr => (h3 r hr).1⟩
theorem OwnS.nil (b1 base : Nat) (w : World) : OwnS b1 base w (.slice none 0 0) [] := ⟨[], ownG_nil _ _ _, rfl, fun r hr => by simp at hr⟩
theorem OwnS.on {b1 base : Nat} {w w1 : World} {v : Value} {l : List Ent} (h : OwnS b1 base w v l) (n : Below w.heap.size w w1) : OwnS b1 base w1 v l := by
  obtain ⟨rs, h1, h2, h3⟩ := h
  exact ⟨rs, own_on h1 n, h2, fun r hr => (h3 r hr).on n⟩
/-- Some more entries put behind. -/
theorem own_mores {b1 base : Nat} {w w1 : World} {v v1 : Value} {rs ms : List Raw} {m : Nat} (hm : ms.length = m) (hle : b1 ≤ base) (h1 : w.ownsRow base 59 3 v rs.length (flatG rawC rs)) (h3 : ∀ r ∈ rs, VSafe b1 w r.sl r.vs) (hs : ∀ r ∈ ms, VSafe b1 w r.sl r.vs)
    (ho : w1.ownsRow base 59 3 v1 (rs.length + m) (flatG rawC rs ++ flatG rawC ms)) (hg : w.grownBy w1 v.ownBlock) : OwnS b1 base w1 v1 (rs.map abs ++ ms.map abs) := by
  subst hm
  refine ⟨rs ++ ms, ?_, by rw [List.map_append], fun r hr => ?_⟩
  · rw [List.length_append, flatG_append]; exact ho
  · rcases List.mem_append.1 hr with hr | hr
    · exact (h3 r hr).grown hle h1 hg
    · exact (hs r hr).grown hle h1 hg
theorem own_one {b1 base : Nat} {w w1 : World} {v v1 : Value} {rs : List Raw} {r : Raw} (hle : b1 ≤ base) (h1 : w.ownsRow base 59 3 v rs.length (flatG rawC rs)) (h3 : ∀ r ∈ rs, VSafe b1 w r.sl r.vs) (hs : VSafe b1 w r.sl r.vs)
    (ho : w1.ownsRow base 59 3 v1 (rs.length + 1) (flatG rawC rs ++ rawC r)) (hg : w.grownBy w1 v.ownBlock) : OwnS b1 base w1 v1 (rs.map abs ++ [abs r]) := by
  have := own_mores (ms := [r]) rfl hle h1 h3 (fun x hx => by simp at hx; subst hx; exact hs) (by rw [flatG_one]; exact ho) hg
  simpa using this
/-- Behind a store into a block of another kind between b1 and base. -/
theorem OwnS.set {b1 base rb : Nat} {w : World} {v : Value} {l : List Ent} {cur : Array Value} (h : OwnS b1 base w v l) (h1 : b1 ≤ rb) (h2 : rb < base) (hr : w.heap[rb]? = some (.cells cur 24 (0, 0))) (u : Value) : SRow (w.setCell ⟨rb, 0, none⟩ u) v l := by
  obtain ⟨rs, g1, g2, g3⟩ := h
  have gq : (w.setCell ⟨rb, 0, none⟩ u).ownsRow base 59 3 v rs.length (flatG rawC rs) := ownsRow_setCell_other g1 (a := ⟨rb, 0, none⟩) (fun e => by have := (g1.lt rb e).1; omega) u
  refine ⟨rs, ownG_row rawC_len gq, g2, fun r hr2 => ?_⟩
  obtain ⟨a, c, hv, hc, hl⟩ := (g3 r hr2).1
  refine ⟨a, c, hv, hc, fun hne => ?_⟩
  obtain ⟨b, o, ha, hb, hL⟩ := hl hne
  have hbr : b ≠ rb := by
    intro e
    subst e
    rcases (g3 r hr2).2 hne b (by rw [hv, ha]; rfl) with q | ⟨cur', q⟩
    · omega
    · rw [q] at hr; injection hr with e1; injection e1 with _ e2; exact absurd e2 (by decide)
  refine ⟨b, o, ha, by simpa using hb, fun i hi j u' hu => ?_⟩
  rw [World.cell?_of_block (a := ⟨b, o + i * 6 + j, none⟩) (Below.heap_setCell w ⟨rb, 0, none⟩ u b hbr)]
  exact hL i hi j u' hu
set_option maxRecDepth 100000 in
theorem info59 : ∃ i, Try.prog.info? 59 = some i ∧ i.zero = some (.agg #[.int .i64 0, .string ⟨#[]⟩, .slice none 0 0]) ∧ i.size = 3 ∧ i.bytes = 48 := ⟨_, rfl, rfl, rfl, rfl⟩

/-! ### drops and items -/
def drpC (d : Drp) : List Value := [.int .i64 d.win, .int .i64 d.st]
theorem drpC_len (d : Drp) : (drpC d).length = 2 := rfl
theorem drpC_one (d : Drp) : ∀ x ∈ drpC d, x.oneCell' = true := by
  intro x hx
  simp [drpC] at hx
  rcases hx with rfl | rfl <;> rfl
abbrev DRow := GRow drpC 2
abbrev DAt := GAt drpC 2
abbrev DLies := GLies drpC 2
theorem d_at {w : World} {b o : Nat} {l : List Drp} (h : DLies w b o l) (i : Nat) (hi : i < l.length) :
    w.cell? ⟨b, o + i * 2, none⟩ = some (.int .i64 (l[i]).win) ∧ w.cell? ⟨b, o + i * 2 + 1, none⟩ = some (.int .i64 (l[i]).st) := ⟨h i hi 0 _ rfl, h i hi 1 _ rfl⟩
def itmC (i : Itm) : List Value := [.int .i64 i.win, .string i.key, .int .i64 i.c.cnt, .int .i64 i.c.sn, .bool i.c.so, .int .i64 i.c.mn, .int .i64 i.c.mx]
theorem itmC_len (i : Itm) : (itmC i).length = 7 := rfl
theorem itmC_one (i : Itm) : ∀ v ∈ itmC i, v.oneCell' = true := by
  intro v hv
  simp [itmC] at hv
  rcases hv with rfl | rfl | rfl | rfl | rfl | rfl | rfl <;> rfl
abbrev IRow := GRow itmC 7
abbrev IMAt := GAt itmC 7
abbrev ILies := GLies itmC 7
theorem im_at {w : World} {b o : Nat} {l : List Itm} (h : ILies w b o l) (i : Nat) (hi : i < l.length) :
    w.cell? ⟨b, o + i * 7, none⟩ = some (.int .i64 (l[i]).win) ∧ w.cell? ⟨b, o + i * 7 + 1, none⟩ = some (.string (l[i]).key) ∧ w.cell? ⟨b, o + i * 7 + 2, none⟩ = some (.int .i64 (l[i]).c.cnt) ∧ w.cell? ⟨b, o + i * 7 + 3, none⟩ = some (.int .i64 (l[i]).c.sn) ∧ w.cell? ⟨b, o + i * 7 + 4, none⟩ = some (.bool (l[i]).c.so) ∧ w.cell? ⟨b, o + i * 7 + 5, none⟩ = some (.int .i64 (l[i]).c.mn) ∧ w.cell? ⟨b, o + i * 7 + 6, none⟩ = some (.int .i64 (l[i]).c.mx) :=
  ⟨h i hi 0 _ rfl, h i hi 1 _ rfl, h i hi 2 _ rfl, h i hi 3 _ rfl, h i hi 4 _ rfl, h i hi 5 _ rfl, h i hi 6 _ rfl⟩
set_option maxRecDepth 100000 in
theorem info54 : ∃ i, Try.prog.info? 54 = some i ∧ i.zero = some (.agg #[.int .i64 0, .string ⟨#[]⟩, .int .i64 0, .int .i64 0, .bool false, .int .i64 0, .int .i64 0]) ∧ i.size = 7 ∧ i.bytes = 64 := ⟨_, rfl, rfl, rfl, rfl⟩
end Go.Proofs.Ythiofbohllmfbaa.Sh
