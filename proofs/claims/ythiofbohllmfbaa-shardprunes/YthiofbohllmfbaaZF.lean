/- What is left of a shard: a walk of the program's own. -/
import Derived.Test.YthiofbohllmfbaaZC
namespace Go.Proofs.Ythiofbohllmfbaa.Sh
open Go Go.RowKit Go.Sort Go.Lib Cl Ce Ch

/-- A box of one cell. -/
def One1 (w : World) (rb T : Nat) (u : Value) : Prop := w.heap[rb]? = some (.cells #[u] T (0, 0))
theorem One1.lt {w : World} {rb T : Nat} {u : Value} (h : One1 w rb T u) : rb < w.heap.size := by
  unfold One1 at h
  rcases Nat.lt_or_ge rb w.heap.size with q | q
  · exact q
  · rw [Array.getElem?_eq_none q] at h; cases h
theorem One1.cell {w : World} {rb T : Nat} {u : Value} (h : One1 w rb T u) : w.cell? ⟨rb, 0, none⟩ = some u := by
  rw [cell_of_row w rb 0 #[u] T (0, 0) h]; rfl
theorem One1.free {w : World} {rb T : Nat} {u : Value} (h : One1 w rb T u) : w.frozen? ⟨rb, 0, none⟩ = false := by
  unfold One1 at h
  unfold World.frozen?
  simp only
  rw [h]
  rfl
theorem One1.on {B rb T : Nat} {w w1 : World} {u : Value} (h : One1 w rb T u) (n : Below B w w1) (hb : rb < B) : One1 w1 rb T u := by
  unfold One1 at *
  rw [n.block rb hb]; exact h
theorem One1.set {w : World} {rb T : Nat} {u : Value} (h : One1 w rb T u) (v : Value) : One1 (w.setCell ⟨rb, 0, none⟩ v) rb T v := by
  unfold One1 at *
  unfold World.setCell
  simp only
  rw [Array.getElem?_modify, if_pos rfl, h]
  rfl
theorem One1.far {w : World} {rb T : Nat} {u : Value} (h : One1 w rb T u) {a : Addr} (hne : rb ≠ a.block) (v : Value) : One1 (w.setCell a v) rb T u := by
  unfold One1 at *
  rw [Below.heap_setCell w a v rb hne]; exact h
/-- Behind a store into a block of another kind between b1 and base. -/
theorem OwnS.put {b1 base rb : Nat} {w : World} {v : Value} {l : List Ent} {cur : Value} (h : OwnS b1 base w v l) (h1 : b1 ≤ rb) (h2 : rb < base) (hr : One1 w rb 24 cur) (u : Value) : OwnS b1 base (w.setCell ⟨rb, 0, none⟩ u) v l := by
  obtain ⟨rs, g1, g2, g3⟩ := h
  have gq : (w.setCell ⟨rb, 0, none⟩ u).ownsRow base 59 3 v rs.length (flatG rawC rs) := ownsRow_setCell_other g1 (a := ⟨rb, 0, none⟩) (fun e => by have := (g1.lt rb e).1; omega) u
  refine ⟨rs, gq, g2, fun r hr2 => ?_⟩
  have hne : r.vs ≠ [] → ∀ b, r.sl.ownBlock = some b → b ≠ rb := by
    intro hne b hb e
    subst e
    rcases (g3 r hr2).2 hne b hb with q | ⟨cur', q⟩
    · omega
    · unfold One1 at hr
      rw [q] at hr; injection hr with e1; injection e1 with _ e2; exact absurd e2 (by decide)
  refine ⟨?_, fun hn b hb => ?_⟩
  · obtain ⟨a, c, hv, hc, hl⟩ := (g3 r hr2).1
    refine ⟨a, c, hv, hc, fun hn => ?_⟩
    obtain ⟨b, o, ha, hb, hL⟩ := hl hn
    have hbr : b ≠ rb := hne hn b (by rw [hv, ha]; rfl)
    refine ⟨b, o, ha, by simpa using hb, fun i hi j u' hu => ?_⟩
    rw [World.cell?_of_block (a := ⟨b, o + i * 6 + j, none⟩) (Below.heap_setCell w ⟨rb, 0, none⟩ u b hbr)]
    exact hL i hi j u' hu
  · rcases (g3 r hr2).2 hn b hb with q | ⟨cur', q⟩
    · exact Or.inl q
    · exact Or.inr ⟨cur', by rw [Below.heap_setCell w ⟨rb, 0, none⟩ u b (hne hn b hb)]; exact q⟩

set_option maxRecDepth 100000 in
set_option maxHeartbeats 4000000 in
theorem prune_anyS (v vd : Value) (l : List Ent) (f : Int) (ds : List Drp) (w : World) (h : SRow w v l) (hd : DRow w vd ds) (hn : l.length ≤ 1000) (hdn : ds.length ≤ 1000000) (hv : ∀ e ∈ l, e.vs.length ≤ 1000) :
    Calls Try.prog 21 #[.agg #[v], .int .i64 f, vd] w fun e w' => (∃ v', e = .returned (.agg #[v']) ∧ SRow w' v' (pruneS l f ds)) ∧ Below w.heap.size w w' := by
  obtain ⟨j0, hi, hz0, hz1, hz2⟩ := info59
  have HI := Lib.hid (And.intro hi (And.intro hz0 (And.intro hz1 hz2)))
  clear hi hz0 hz1 hz2
  obtain ⟨a, c, rfl, hc, hl⟩ := h.at
  have HL := Lib.hid (fun W (d : Below w.heap.size w W) => hl.on d)
  have HV := Lib.hid (fun k (hk : k < l.length) => hv _ (List.getElem_mem hk))
  have HDR := Lib.hid (fun W (d : Below w.heap.size w W) => hd.on d)
  have d0 := Lib.hid (St.below3 (w := w) (.cells #[.slice a l.length c] 24) (.cells #[.slice none 0 0] 24) (.cells #[.slice none 0 0] 24))
  obtain ⟨ad, cd, rfl, -, -⟩ := hd
  obtain ⟨PS, HPS⟩ : ∃ PS, Hid (pruneS l f ds = PS) := ⟨_, rfl⟩
  rw [HPS.out]
  clear h hl hv
  go_enter Try.func21, Try.ntmps21
  go_wp2_with fail
  have HR0 : Hid (One1 (((w.alloc (.cells #[.slice a l.length c] 24)).alloc (.cells #[.slice none 0 0] 24)).alloc (.cells #[.slice none 0 0] 24)) (w.heap.size + 2) 24 (.slice none 0 0)) := by have := heap_alloc_new ((w.alloc (.cells #[.slice a l.length c] 24)).alloc (.cells #[.slice none 0 0] 24)) (.cells #[.slice none 0 0] 24); simpa [One1, Hid] using this
  have HQ0 : Hid (One1 (((w.alloc (.cells #[.slice a l.length c] 24)).alloc (.cells #[.slice none 0 0] 24)).alloc (.cells #[.slice none 0 0] 24)) (w.heap.size + 1) 24 (.slice none 0 0)) := by
    have h := heap_alloc_new (w.alloc (.cells #[.slice a l.length c] 24)) (.cells #[.slice none 0 0] 24)
    have h2 : One1 ((w.alloc (.cells #[.slice a l.length c] 24)).alloc (.cells #[.slice none 0 0] 24)) (w.heap.size + 1) 24 (.slice none 0 0) := by simpa [One1] using h
    exact h2.on (aBelow _ _) h2.lt
  have hB : (((w.alloc (.cells #[.slice a l.length c] 24)).alloc (.cells #[.slice none 0 0] 24)).alloc (.cells #[.slice none 0 0] 24)).heap.size = w.heap.size + 2 + 1 := by simp
  generalize ((w.alloc (.cells #[.slice a l.length c] 24)).alloc (.cells #[.slice none 0 0] 24)).alloc (.cells #[.slice none 0 0] 24) = w0 at *
  generalize hx2 : w.heap.size + 2 = rb at *
  generalize hx1 : w.heap.size + 1 = sb at *
  generalize hxb : w.heap.size = xb at *
  have HXB := Lib.hid (And.intro hxb (And.intro hx1 hx2))
  clear hxb hx1 hx2
  have hrb : rb < w0.heap.size := by omega
  have hxr : xb ≤ rb := by have := HXB.out; omega
  have hxs : xb ≤ sb := by have := HXB.out; omega
  have hsb : sb < w0.heap.size := by have := HXB.out; omega
  have hsr : sb ≠ rb := by have := HXB.out; omega
  have hxw : xb ≤ w0.heap.size := by omega
  clear hB
  go_loopw [13] (fun i wr => ∃ (k : Nat) (out : Value), k ≤ l.length ∧ i = .int .i64 k ∧ Hid (OwnS xb w0.heap.size wr out (pruneS (l.take k) f ds)) ∧ Hid (One1 wr rb 24 out) ∧ Hid (One1 wr sb 24 (.slice none 0 0)) ∧ Hid (Below xb w wr ∧ w0.heap.size ≤ wr.heap.size)) (fun i _ => l.length - (intOf i).toNat)
  case atStart => exact ⟨0, _, Nat.zero_le _, rfl, OwnS.nil _ _ _, HR0, HQ0, d0.out, Nat.le_refl _⟩
  case round =>
    obtain ⟨k, out, hk, rfl, HO, HR, HQ, HD⟩ := hrel
    clear HR0 HQ0
    by_cases hlt : k < l.length
    · obtain ⟨b, o, rfl, hbb, L0⟩ := (HL.out _ HD.out.1) (ne_of_lt hlt)
      obtain ⟨s1, e1, e2, e3, r1⟩ := L0 k hlt
      have i1 : (k : Int) < (l.length : Int) := by omega
      have i2 : (0 : Int) ≤ (k : Int) := by omega
      have HN := Lib.hid (pruneS_next hlt f ds)
      have hlv := HV.out k hlt
      have hpl : (pruneS (l.take k) f ds).length ≤ k := Nat.le_trans (pruneS_len _ _ _) (by rw [List.length_take]; omega)
      have HR1 := Lib.hid r1
      have HDC := Lib.hid (fun W (d : Below wr.heap.size wr W) (wi s : Int) => dropped_any (.slice ad ds.length cd) ds wi s W (((HDR.out _ HD.out.1)).on d) hdn)
      obtain ⟨sa, sc, rfl, -, -⟩ := r1
      generalize l[k] = x at *
      obtain ⟨p0, p1, p2⟩ := x
      simp only [prunedE] at e1 e2 e3 hlv HN
      have HPC := Lib.hid (fun W (d : Below wr.heap.size wr W) => prune_any (.slice sa p2.length sc) p2 f W (HR1.out.on d) (by omega))
      generalize pruneS (l.take k) f ds = S at *
      have hwz := HD.out.2
      have hwx : xb ≤ wr.heap.size := Nat.le_trans hxw hwz
      have dA := Lib.hid (aBelow wr (.cells #[.int .i64 p0, .string p1, .slice sa p2.length sc] 59))
      have HE := Lib.hid (EBox.new wr p0 p1 (.slice sa p2.length sc))
      clear L0 hbb
      go_wp2_with fail
      refine (HDC.out _ dA.out _ _).mono ?_
      rintro e w2 ⟨rfl, n2⟩
      have d2 := Lib.hid ((dA.out).trans (n2.mono dA.out.size))
      have HE2 := Lib.hid (HE.out.on n2)
      obtain ⟨T, HT⟩ : ∃ T, Hid (dropped ds p0 f = T) := ⟨_, rfl⟩
      rw [HT.out] at HN ⊢
      clear HE
      cases T
      · rw [if_neg (by decide)] at HN
        obtain ⟨⟨x0, x1, x2⟩, x3⟩ := HE2.out
        go_wp2_with fail
        refine (HPC.out _ d2.out).mono ?_
        rintro e w3 ⟨⟨v5, rfl, hv5⟩, n3⟩
        have hbx := HE2.out.on n3
        have d3 := Lib.hid ((d2.out).trans (n3.mono d2.out.size))
        have R3 := Lib.hid (HR.out.on d3.out (Nat.lt_of_lt_of_le hrb hwz))
        obtain ⟨rs, ho, hm, hsafe⟩ := HO.out
        have hrl : rs.length = S.length := by rw [← hm, List.length_map]
        obtain ⟨bx, PO, PZ, P1, PK⟩ := put_entry (w0 := wr) ho hsafe hxw hwz (Below.refl _ _) (Nat.le_refl _) hbx d3.out hv5 (HE2.out.lt)
        have PO := Lib.hid PO
        have PZ := Lib.hid PZ
        have P1 := Lib.hid P1
        have PK := Lib.hid PK
        have HRL := Lib.hid hrl
        have HM := Lib.hid hm
        have HNW := Lib.hid (newE (w3.setCell ⟨wr.heap.size, 2, none⟩ v5) p0 p1 v5)
        have hzs : (w3.setCell ⟨wr.heap.size, 2, none⟩ v5).heap.size = w3.heap.size := by simp
        rw [hzs] at HNW
        have hne : rb ≠ wr.heap.size := by omega
        have r3 := R3.out.cell
        have r4 := (R3.out.far (a := ⟨wr.heap.size, 2, none⟩) hne v5).cell
        obtain ⟨a5, c5, rfl, -, -⟩ := hv5.row
        obtain ⟨a0, c0, hoe, -, -⟩ := (HO.out.row).at
        have hoe : out = .slice a0 S.length c0 := hoe
        subst hoe
        obtain ⟨⟨y0, y1, y2⟩, y3⟩ := hbx
        clear bx ho hsafe hm hv5 hzs x0 x1 x2 x3 HE2 HPC HDC n3 hrl
        generalize prune p2 f = P at *
        go_wp2_with (first | (at_builtin; refine wpList_append_own _ rfl _ _ 22 rfl w0.heap.size 59 j0 (.agg #[.int .i64 0, .string ⟨#[]⟩, .slice none 0 0]) 3 48 Try.underlying22 HI.out.1 HI.out.2.1 HI.out.2.2.1 HI.out.2.2.2 rfl (by decide) _ _ _ rfl PO.out ⟨w3.heap.size, 0, none⟩ 1 1 (rawC ⟨p0, p1, .slice a5 P.length c5, P⟩) rfl rfl HNW.out P1.out (by have := HRL.out; unfold maxLen; omega) (by have := HRL.out; omega) PZ.out ?_; intro v' w6 hown hgrow hnil; have HX := Lib.hid (PK.out v' w6 hown hgrow); obtain ⟨a6, c6, hoe6, -, -⟩ := HX.out.1.row.at; rw [List.length_append, List.length_map, List.length_singleton] at hoe6; subst hoe6; have f6 := (HR.out.on HX.out.2 hrb).free; have r6 := (HR.out.on HX.out.2 hrb).cell; clear hown hgrow hnil))
        have d6 := HX.out.2
        have HO6 := Lib.hid (HX.out.1.put hxr hrb (HR.out.on d6 hrb) (.slice a6 (rs.length + 1) c6))
        have HR6 := Lib.hid ((HR.out.on d6 hrb).set (.slice a6 (rs.length + 1) c6))
        have HQ6 := Lib.hid ((HQ.out.on d6 hsb).far (a := ⟨rb, 0, none⟩) hsr (.slice a6 (rs.length + 1) c6))
        have HD6 := Lib.hid ((HD.out.1.trans (d6.mono hxw)).setCell (p := ⟨rb, 0, none⟩) hxr (.slice a6 (rs.length + 1) c6))
        have HZ6 := Lib.hid (show w0.heap.size ≤ (w6.setCell ⟨rb, 0, none⟩ (.slice a6 (rs.length + 1) c6)).heap.size by have := d6.size; simp; omega)
        exact ⟨⟨k + 1, _, by omega, by go_num, by rw [HN.out, ← HM.out]; exact HO6.out, HR6.out, HQ6.out, HD6.out, HZ6.out⟩, by simp [intOf]; omega⟩
      · rw [if_pos rfl, List.append_nil] at HN
        have HD1 := Lib.hid (HD.out.1.trans (d2.out.mono hwx))
        have HO1 := Lib.hid (HO.out.on d2.out)
        have HR2 := Lib.hid (HR.out.on d2.out (Nat.lt_of_lt_of_le hrb hwz))
        have HQ2 := Lib.hid (HQ.out.on d2.out (Nat.lt_of_lt_of_le hsb hwz))
        have HZ2 := Lib.hid (Nat.le_trans hwz d2.out.size)
        go_wp2_with fail
        exact ⟨⟨k + 1, _, by omega, by go_num, by rw [HN.out]; exact HO1.out, HR2.out, HQ2.out, HD1.out, HZ2.out⟩, by simp [intOf]; omega⟩
    · have i1 : ¬ (k : Int) < (l.length : Int) := by omega
      have HT : Hid (pruneS (l.take k) f ds = PS) := by show _ = _; rw [List.take_of_length_le (by omega)]; exact HPS.out
      rw [HT.out] at HO
      have r1 := HR.out.cell
      have q1 := HQ.out.cell
      have q2 := HQ.out.free
      obtain ⟨a5, c5, hoe, -, -⟩ := HO.out.row.at
      subst hoe
      have HRow := Lib.hid (HO.out.put hxs hsb HQ.out (.slice a5 PS.length c5)).row
      have DD := Lib.hid (HD.out.1.setCell (p := ⟨sb, 0, none⟩) hxs (.slice a5 PS.length c5))
      clear HL HV HDR HO HR HQ
      go_wp2_with fail
      obtain ⟨e1, e2, e3⟩ := HXB.out
      subst e1
      exact bodyPost_ret (v := .agg #[.slice a5 PS.length c5]) (by simp [results, Try.results21, go_sem, q1]) rfl ⟨⟨_, rfl, HRow.out⟩, DD.out⟩
end Go.Proofs.Ythiofbohllmfbaa.Sh
