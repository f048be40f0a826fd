/- Shards: one's own copy, what is read, what is left: walks of the document's. -/
import Derived.Test.YthiofbohllmfbaaSC
import Derived.OneCell
namespace Go.Proofs.Ythiofbohllmfbaa.Sh
open Go Go.RowKit Go.Sort Go.Lib Cl Ce Ch

/-- An entry's box, and that it may be written. -/
def EBox (w : World) (b : Nat) (x0 : Int) (x1 : ByteArray) (v : Value) : Prop :=
  (w.cell? ⟨b, 0, none⟩ = some (.int .i64 x0) ∧ w.cell? ⟨b, 1, none⟩ = some (.string x1) ∧ w.cell? ⟨b, 2, none⟩ = some v) ∧ w.frozen? ⟨b, 2, none⟩ = false
theorem EBox.lt {w : World} {b : Nat} {x0 : Int} {x1 : ByteArray} {v : Value} (h : EBox w b x0 x1 v) : b < w.heap.size := World.block_lt_of_cell? _ _ h.1.1
theorem EBox.on {w w1 : World} {b : Nat} {x0 : Int} {x1 : ByteArray} {v : Value} (h : EBox w b x0 x1 v) (n : Below w.heap.size w w1) : EBox w1 b x0 x1 v := by
  have z := h.lt
  obtain ⟨⟨h0, h1, h2⟩, h3⟩ := h
  exact ⟨⟨keepC n h0 z, keepC n h1 z, keepC n h2 z⟩, by rw [n.frozen (p := ⟨b, 2, none⟩) z]; exact h3⟩
theorem EBox.grown {w w1 : World} {b : Nat} {x0 : Int} {x1 : ByteArray} {v : Value} {r : Option Nat} (h : EBox w b x0 x1 v) (hg : w.grownBy w1 r) (hr : some b ≠ r) : EBox w1 b x0 x1 v := by
  have z := hg.block b h.lt hr
  obtain ⟨⟨h0, h1, h2⟩, h3⟩ := h
  exact ⟨⟨by rw [World.cell?_of_block (a := ⟨b, 0, none⟩) z]; exact h0, by rw [World.cell?_of_block (a := ⟨b, 1, none⟩) z]; exact h1, by rw [World.cell?_of_block (a := ⟨b, 2, none⟩) z]; exact h2⟩, by rw [World.frozen?_of_block (a := ⟨b, 2, none⟩) z]; exact h3⟩
theorem EBox.new (w : World) (x0 : Int) (x1 : ByteArray) (v : Value) : EBox (w.alloc (.cells #[.int .i64 x0, .string x1, v] 59)) w.heap.size x0 x1 v := ⟨⟨by simp, by simp, by simp⟩, by simp [go_sem]⟩
theorem EBox.set {w : World} {b : Nat} {x0 : Int} {x1 : ByteArray} {v : Value} (h : EBox w b x0 x1 v) (u : Value) : EBox (w.setCell ⟨b, 2, none⟩ u) b x0 x1 u := by
  obtain ⟨⟨h0, h1, h2⟩, h3⟩ := h
  refine ⟨⟨?_, ?_, ?_⟩, ?_⟩ <;> simp [go_sem, h0, h1, h2, h3]
theorem vown_set {B : Nat} {w : World} {v : Value} {l : List Ver} (h : VOwn B w v l) {b : Nat} (hb : b < B) (u : Value) : VOwn B (w.setCell ⟨b, 2, none⟩ u) v l :=
  ownsRow_setCell_other h (a := ⟨b, 2, none⟩) (fun e => by have := h.lt b e; omega) u
/-- An entry's cells, just made. -/
theorem newE (w : World) (x0 : Int) (x1 : ByteArray) (v : Value) : ∀ j u, ([.int .i64 x0, .string x1, v] : List Value)[j]? = some u → (w.alloc (.cells #[.int .i64 x0, .string x1, v] 59)).cell? ((⟨w.heap.size, 0, none⟩ : Addr).add j) = some u := by
  intro j u hu
  rw [addr_add, Nat.zero_add, cell_of_row _ w.heap.size j #[.int .i64 x0, .string x1, v] 59 (0, 0) (heap_alloc_new _ _)]
  simpa using hu
/-- What an entry is that is put behind: its box is stored into, a copy is laid, it is appended. -/
theorem put_entry {b1 base B : Nat} {w0 wr W : World} {out v5 : Value} {rs : List Raw} {x0 : Int} {x1 : ByteArray} {u : Value} {vs : List Ver} {eb : Nat}
    (ho : wr.ownsRow base 59 3 out rs.length (flatG rawC rs)) (hs : ∀ r ∈ rs, VSafe b1 wr r.sl r.vs) (hle : b1 ≤ base) (hb : base ≤ wr.heap.size) (hd : Below base w0 wr) (he : wr.heap.size ≤ eb) (hbx : EBox W eb x0 x1 u) (dW : Below wr.heap.size wr W) (hv : VOwn B W v5 vs) (hB : eb < B) :
    EBox (W.setCell ⟨eb, 2, none⟩ v5) eb x0 x1 v5 ∧
    ((W.setCell ⟨eb, 2, none⟩ v5).alloc (.cells #[.int .i64 x0, .string x1, v5] 59)).ownsRow base 59 3 out rs.length (flatG rawC rs) ∧
    base ≤ ((W.setCell ⟨eb, 2, none⟩ v5).alloc (.cells #[.int .i64 x0, .string x1, v5] 59)).heap.size ∧
    (∀ x ∈ rawC ⟨x0, x1, v5, vs⟩, x.oneCell' = true) ∧
    ∀ v' w', w'.ownsRow base 59 3 v' (rs.length + 1) (flatG rawC rs ++ rawC ⟨x0, x1, v5, vs⟩) → ((W.setCell ⟨eb, 2, none⟩ v5).alloc (.cells #[.int .i64 x0, .string x1, v5] 59)).grownBy w' out.ownBlock → OwnS b1 base w' v' (rs.map abs ++ [⟨x0, x1, vs⟩]) ∧ Below base w0 w' := by
  have d1 : Below wr.heap.size wr (W.setCell ⟨eb, 2, none⟩ v5) := dW.setCell he v5
  have d2 := d1.alloc d1.size (.cells #[.int .i64 x0, .string x1, v5] 59)
  have ho2 := own_on ho d2
  have hs2 : ∀ r ∈ rs, VSafe b1 ((W.setCell ⟨eb, 2, none⟩ v5).alloc (.cells #[.int .i64 x0, .string x1, v5] 59)) r.sl r.vs := fun r hr => (hs r hr).on d2
  have hv2 : VOwn B ((W.setCell ⟨eb, 2, none⟩ v5).alloc (.cells #[.int .i64 x0, .string x1, v5] 59)) v5 vs := (vown_set hv hB v5).alloc _
  refine ⟨hbx.set v5, ho2, Nat.le_trans hb d2.size, rawC_one ⟨x0, x1, v5, vs⟩ hv.row, fun v' w' h1 h2 => ⟨?_, ?_⟩⟩
  · exact own_one (r := ⟨x0, x1, v5, vs⟩) hle ho2 hs2 (vsafe_own hv2) h1 h2
  · exact (hd.trans (d2.mono hb)).grown h2 (Nat.le_trans hb d2.size) (fun k hk => (ho2.lt k hk).1)

set_option maxRecDepth 100000 in
set_option maxHeartbeats 4000000 in
theorem refPruneS_any (v vd : Value) (l : List Ent) (f : Int) (ds : List Drp) (w : World) (h : SRow w v l) (hd : DRow w vd ds) (hn : l.length ≤ 1000) (hdn : ds.length ≤ 1000000) (hv : ∀ e ∈ l, e.vs.length ≤ 1000) :
    Calls Try.prog 22 #[.agg #[v], .int .i64 f, vd] w fun e w' => (∃ v', e = .returned (.agg #[v']) ∧ SRow w' v' (pruneS l f ds)) ∧ Below w.heap.size w w' := by
  obtain ⟨j0, hi, hz0, hz1, hz2⟩ := info59
  have HI := Lib.hid (And.intro hi (And.intro hz0 (And.intro hz1 hz2)))
  clear hi hz0 hz1 hz2
  obtain ⟨a, c, rfl, hc, hl⟩ := h.at
  have d0 := Lib.hid (aBelow2 w (.cells #[.slice a l.length c] 24) (.cells #[.slice none 0 0] 24))
  have HL := Lib.hid (hl.on d0.out)
  have HV := Lib.hid (fun k (hk : k < l.length) => hv _ (List.getElem_mem hk))
  have HDR := Lib.hid (hd.on d0.out)
  obtain ⟨ad, cd, rfl, -, -⟩ := hd
  obtain ⟨PS, HPS⟩ : ∃ PS, Hid (pruneS l f ds = PS) := ⟨_, rfl⟩
  rw [HPS.out]
  clear h hl hv
  go_enter Try.func22, Try.ntmps22
  go_wp2_with fail
  have B0 : ((w.alloc (.cells #[.slice a l.length c] 24)).alloc (.cells #[.slice none 0 0] 24)).cell? ⟨w.heap.size, 0, none⟩ = some (.slice a l.length c) := by simp
  have B1 : ((w.alloc (.cells #[.slice a l.length c] 24)).alloc (.cells #[.slice none 0 0] 24)).cell? ⟨w.heap.size + 1, 0, none⟩ = some (.slice none 0 0) := by simp
  have H1 : ((w.alloc (.cells #[.slice a l.length c] 24)).alloc (.cells #[.slice none 0 0] 24)).heap[w.heap.size + 1]? = some (.cells #[.slice none 0 0] 24 (0, 0)) := by have := heap_alloc_new (w.alloc (.cells #[.slice a l.length c] 24)) (.cells #[.slice none 0 0] 24); simpa using this
  have F1 : ((w.alloc (.cells #[.slice a l.length c] 24)).alloc (.cells #[.slice none 0 0] 24)).frozen? ⟨w.heap.size + 1, 0, none⟩ = false := by simp [go_sem]
  have hb0 : w.heap.size < ((w.alloc (.cells #[.slice a l.length c] 24)).alloc (.cells #[.slice none 0 0] 24)).heap.size := by simp; omega
  have hb1 : w.heap.size + 1 < ((w.alloc (.cells #[.slice a l.length c] 24)).alloc (.cells #[.slice none 0 0] 24)).heap.size := by simp
  generalize (w.alloc (.cells #[.slice a l.length c] 24)).alloc (.cells #[.slice none 0 0] 24) = w0 at *
  generalize hx1 : w.heap.size + 1 = rb at *
  generalize hxb : w.heap.size = xb at *
  have HXB := Lib.hid (And.intro hxb hx1)
  clear hxb hx1
  go_loopw [7, 8] (fun out i wr => ∃ k : Nat, k ≤ l.length ∧ i = .int .i64 k ∧ Hid (OwnS xb w0.heap.size wr out (pruneS (l.take k) f ds)) ∧ Hid (Below w0.heap.size w0 wr)) (fun _ i _ => l.length - (intOf i).toNat)
  case atStart => exact ⟨0, Nat.zero_le _, rfl, OwnS.nil _ _ _, Below.refl _ _⟩
  case round =>
    obtain ⟨k, hk, rfl, HO, HD⟩ := hrel
    have R0 := keepC HD.out B0 hb0
    by_cases hlt : k < l.length
    · obtain ⟨b, o, rfl, hbb, L0⟩ := HL.out (ne_of_lt hlt)
      obtain ⟨s1, e1, e2, e3, r1⟩ := (L0.on hbb HD.out) k hlt
      have i1 : (k : Int) < (l.length : Int) := by omega
      have i2 : (0 : Int) ≤ (k : Int) := by omega
      have HN := Lib.hid (pruneS_next hlt f ds)
      have hlv := HV.out k hlt
      have hpl : (pruneS (l.take k) f ds).length ≤ k := Nat.le_trans (pruneS_len _ _ _) (by rw [List.length_take]; omega)
      have HR1 := Lib.hid r1
      have HDC := Lib.hid (fun W (d : Below wr.heap.size wr W) (wi s : Int) => refDropped_any (.slice ad ds.length cd) ds wi s W ((HDR.out.on HD.out).on d) hdn)
      obtain ⟨sa, sc, rfl, -, -⟩ := r1
      generalize l[k] = x at *
      obtain ⟨p0, p1, p2⟩ := x
      simp only [prunedE] at e1 e2 e3 hlv HN
      have HPC := Lib.hid (fun W (d : Below wr.heap.size wr W) => refPrune_any (.slice sa p2.length sc) p2 f W (HR1.out.on d) (by omega))
      generalize pruneS (l.take k) f ds = S at *
      have hwz := HD.out.size
      have dA := Lib.hid (aBelow wr (.cells #[.int .i64 p0, .string p1, .slice sa p2.length sc] 59))
      have HE := Lib.hid (EBox.new wr p0 p1 (.slice sa p2.length sc))
      clear L0 HL hbb
      go_wp2_with fail
      refine (HDC.out _ dA.out _ _).mono ?_
      rintro e w2 ⟨rfl, rfl⟩
      obtain ⟨T, HT⟩ : ∃ T, Hid (dropped ds p0 f = T) := ⟨_, rfl⟩
      rw [HT.out] at HN ⊢
      cases T
      · rw [if_neg (by decide)] at HN
        obtain ⟨⟨x0, x1, x2⟩, x3⟩ := HE.out
        generalize hwa : wr.alloc (.cells #[.int .i64 p0, .string p1, .slice sa p2.length sc] 59) = wa at *
        go_wp2_with fail
        refine (HPC.out _ dA.out).mono ?_
        rintro e w3 ⟨⟨v5, rfl, hv5⟩, n3⟩
        have hbx := HE.out.on n3
        obtain ⟨rs, ho, hm, hsafe⟩ := HO.out
        have hrl : rs.length = S.length := by rw [← hm, List.length_map]
        obtain ⟨bx, PO, PZ, P1, PK⟩ := put_entry (w0 := w0) ho hsafe (Nat.le_of_lt hb0) hwz HD.out (Nat.le_refl _) hbx ((dA.out).trans (n3.mono dA.out.size)) hv5 (by rw [← hwa]; simp)
        have PO := Lib.hid PO
        have PZ := Lib.hid PZ
        have P1 := Lib.hid P1
        have PK := Lib.hid PK
        have HRL := Lib.hid hrl
        have HM := Lib.hid hm
        have HNW := Lib.hid (newE (w3.setCell ⟨wr.heap.size, 2, none⟩ v5) p0 p1 v5)
        have hzs : (w3.setCell ⟨wr.heap.size, 2, none⟩ v5).heap.size = w3.heap.size := by simp
        rw [hzs] at HNW
        obtain ⟨a5, c5, rfl, -, -⟩ := hv5.row
        obtain ⟨⟨y0, y1, y2⟩, y3⟩ := hbx
        clear bx ho hsafe hm hv5 hzs x0 x1 x2 x3 HE HPC HDC dA n3 hrl
        generalize prune p2 f = P at *
        go_wp2_with (first | (at_builtin; refine wpList_append_own _ rfl _ _ 22 rfl w0.heap.size 59 j0 (.agg #[.int .i64 0, .string ⟨#[]⟩, .slice none 0 0]) 3 48 Try.underlying22 HI.out.1 HI.out.2.1 HI.out.2.2.1 HI.out.2.2.2 rfl (by decide) _ _ _ rfl PO.out ⟨w3.heap.size, 0, none⟩ 1 1 (rawC ⟨p0, p1, .slice a5 P.length c5, P⟩) rfl rfl HNW.out P1.out (by have := HRL.out; unfold maxLen; omega) (by have := HRL.out; omega) PZ.out ?_; intro v' w6 hown hgrow hnil))
        have HQ := Lib.hid (PK.out v' w6 hown hgrow)
        clear hown hgrow hnil
        exact ⟨⟨k + 1, by omega, by go_num, by rw [HN.out, ← HM.out]; exact HQ.out.1, HQ.out.2⟩, by simp [intOf]; omega⟩
      · rw [if_pos rfl, List.append_nil] at HN
        have HD1 := Lib.hid (HD.out.trans (dA.out.mono hwz))
        have HO1 := Lib.hid (HO.out.on dA.out)
        go_wp2_with fail
        exact ⟨⟨k + 1, by omega, by go_num, by rw [HN.out]; exact HO1, HD1⟩, by simp [intOf]; omega⟩
    · have i1 : ¬ (k : Int) < (l.length : Int) := by omega
      have HT : Hid (pruneS (l.take k) f ds = PS) := by show _ = _; rw [List.take_of_length_le (by omega)]; exact HPS.out
      rw [HT.out] at HO
      have R1 := keepC HD.out B1 hb1
      have RF : wr.frozen? ⟨rb, 0, none⟩ = false := by rw [HD.out.frozen (p := ⟨rb, 0, none⟩) hb1]; exact F1
      have RH : wr.heap[rb]? = some (.cells #[.slice none 0 0] 24 (0, 0)) := by rw [HD.out.block rb hb1]; exact H1
      have hbr : xb ≤ rb := by have := HXB.out; omega
      have HS := fun u => HO.out.set hbr hb1 RH u
      have hro := HO.out.row
      obtain ⟨a5, c5, rfl, -, -⟩ := hro.at
      have HRow := Lib.hid (HS (.slice a5 PS.length c5))
      have DD := Lib.hid (((d0.out).trans (HD.out.mono (Nat.le_of_lt hb0))).setCell (p := ⟨rb, 0, none⟩) hbr (.slice a5 PS.length c5))
      clear HS hro RH HO
      go_wp2_with fail
      obtain ⟨e1, e2⟩ := HXB.out
      subst e1
      exact bodyPost_ret (v := .agg #[.slice a5 PS.length c5]) (by simp [results, Try.results22, go_sem, R1]) rfl ⟨⟨_, rfl, HRow.out⟩, DD.out⟩

/-! ### one's own copy -/
set_option maxRecDepth 100000 in
theorem info72 : ∃ i, Try.prog.info? 81 = some i ∧ i.zero = some (.agg #[.int .i64 0, .int .i64 0, .int .i64 0, .bool false, .int .i64 0, .int .i64 0]) ∧ i.size = 6 ∧ i.bytes = 48 := info40
set_option maxRecDepth 100000 in
set_option maxHeartbeats 4000000 in
theorem refCopy_any (v : Value) (l : List Ent) (w : World) (h : SRow w v l) (hn : l.length ≤ 1000) (hv : ∀ e ∈ l, e.vs.length ≤ 1000) :
    Calls Try.prog 10 #[.agg #[v]] w fun e w' => (∃ v', e = .returned (.agg #[v']) ∧ SRow w' v' l) ∧ Below w.heap.size w w' := by
  obtain ⟨j0, hi, hz0, hz1, hz2⟩ := info59
  have HI := Lib.hid (And.intro hi (And.intro hz0 (And.intro hz1 hz2)))
  clear hi hz0 hz1 hz2
  obtain ⟨jv, hi, hz0, hz1, hz2⟩ := info72
  have HJ := Lib.hid (And.intro hi (And.intro hz0 (And.intro hz1 hz2)))
  clear hi hz0 hz1 hz2
  obtain ⟨a, c, rfl, hc, hl⟩ := h.at
  have d0 := Lib.hid (aBelow2 w (.cells #[.slice a l.length c] 24) (.cells #[.slice none 0 0] 24))
  have HL := Lib.hid (hl.on d0.out)
  have HV := Lib.hid (fun k (hk : k < l.length) => hv _ (List.getElem_mem hk))
  clear h hl hv
  go_enter Try.func10, Try.ntmps10
  go_wp2_with fail
  have B0 : ((w.alloc (.cells #[.slice a l.length c] 24)).alloc (.cells #[.slice none 0 0] 24)).cell? ⟨w.heap.size, 0, none⟩ = some (.slice a l.length c) := by simp
  have B1 : ((w.alloc (.cells #[.slice a l.length c] 24)).alloc (.cells #[.slice none 0 0] 24)).cell? ⟨w.heap.size + 1, 0, none⟩ = some (.slice none 0 0) := by simp
  have H1 : ((w.alloc (.cells #[.slice a l.length c] 24)).alloc (.cells #[.slice none 0 0] 24)).heap[w.heap.size + 1]? = some (.cells #[.slice none 0 0] 24 (0, 0)) := by have := heap_alloc_new (w.alloc (.cells #[.slice a l.length c] 24)) (.cells #[.slice none 0 0] 24); simpa using this
  have F1 : ((w.alloc (.cells #[.slice a l.length c] 24)).alloc (.cells #[.slice none 0 0] 24)).frozen? ⟨w.heap.size + 1, 0, none⟩ = false := by simp [go_sem]
  have hb0 : w.heap.size < ((w.alloc (.cells #[.slice a l.length c] 24)).alloc (.cells #[.slice none 0 0] 24)).heap.size := by simp; omega
  have hb1 : w.heap.size + 1 < ((w.alloc (.cells #[.slice a l.length c] 24)).alloc (.cells #[.slice none 0 0] 24)).heap.size := by simp
  generalize (w.alloc (.cells #[.slice a l.length c] 24)).alloc (.cells #[.slice none 0 0] 24) = w0 at *
  generalize hx1 : w.heap.size + 1 = rb at *
  generalize hxb : w.heap.size = xb at *
  have HXB := Lib.hid (And.intro hxb hx1)
  clear hxb hx1
  go_loopw [3, 4] (fun out i wr => ∃ k : Nat, k ≤ l.length ∧ i = .int .i64 k ∧ Hid (OwnS xb w0.heap.size wr out (l.take k)) ∧ Hid (Below w0.heap.size w0 wr)) (fun _ i _ => l.length - (intOf i).toNat)
  case atStart => exact ⟨0, Nat.zero_le _, rfl, OwnS.nil _ _ _, Below.refl _ _⟩
  case round =>
    obtain ⟨k, hk, rfl, HO, HD⟩ := hrel
    have R0 := keepC HD.out B0 hb0
    by_cases hlt : k < l.length
    · obtain ⟨b, o, rfl, hbb, L0⟩ := HL.out (ne_of_lt hlt)
      obtain ⟨s1, e1, e2, e3, r1⟩ := (L0.on hbb HD.out) k hlt
      have i1 : (k : Int) < (l.length : Int) := by omega
      have i2 : (0 : Int) ≤ (k : Int) := by omega
      have HN := Lib.hid (take_next hlt)
      have hlv := HV.out k hlt
      have hpl : (l.take k).length ≤ k := by rw [List.length_take]; omega
      have HR1 := Lib.hid r1
      obtain ⟨sa, sc, rfl, hsc, hla⟩ := r1
      generalize l[k] = x at *
      obtain ⟨p0, p1, p2⟩ := x
      simp only at e1 e2 e3 hlv HN hla
      have HA1 := Lib.hid hla
      generalize l.take k = S at *
      have hwz := HD.out.size
      have dA := Lib.hid (aBelow2 wr (.cells #[.int .i64 p0, .string p1, .slice sa p2.length sc] 59) (.cells #[] 81))
      have HE := Lib.hid (EBox.new wr p0 p1 (.slice sa p2.length sc))
      clear L0 HL hbb hla hsc
      obtain ⟨⟨x0, x1, x2⟩, x3⟩ := HE.out.on (aBelow (wr.alloc (.cells #[.int .i64 p0, .string p1, .slice sa p2.length sc] 59)) (.cells #[] 81))
      have hzA : (wr.alloc (.cells #[.int .i64 p0, .string p1, .slice sa p2.length sc] 59)).heap.size = wr.heap.size + 1 := by simp
      have HM0 := Lib.hid (World.ownsRow_made (base := wr.heap.size + 1) (e := 81) (size := 6) (wr.alloc (.cells #[.int .i64 p0, .string p1, .slice sa p2.length sc] 59)) #[] 0 (Nat.le_of_eq hzA.symm) (Nat.zero_le _) (by simp))
      rw [hzA] at HM0
      have HZ0 : Hid (wr.heap.size + 1 ≤ ((wr.alloc (.cells #[.int .i64 p0, .string p1, .slice sa p2.length sc] 59)).alloc (.cells #[] 81)).heap.size) := by show _ ≤ _; simp
      have HN0 := Lib.hid (gat_news verC_len (by decide) (HA1.out.on dA.out))
      have HG0 := Lib.hid (gat_none HA1.out)
      clear hzA
      go_wp2_with (first | (at_builtin; refine wpList_append_any rfl _ _ 57 rfl (wr.heap.size + 1) 81 jv (.agg #[.int .i64 0, .int .i64 0, .int .i64 0, .bool false, .int .i64 0, .int .i64 0]) 6 48 Try.underlying57 HJ.out.1 HJ.out.2.1 HJ.out.2.2.1 HJ.out.2.2.2 rfl (by decide) _ _ _ rfl HM0.out sa p2.length sc (flatG verC p2) rfl (flatG_len verC_len p2) HG0.out HN0.out (flatG_cells1 verC_one p2) (by unfold maxLen; omega) (by omega) HZ0.out ?_; intro v5 w3 hown5 hgrow5 hnil5; have HO5 := Lib.hid (show VOwn (wr.heap.size + 1) w3 v5 p2 from (by simpa [VOwn] using hown5)); have dB := Lib.hid ((dA.out).grown hgrow5 (Nat.le_trans (Nat.le_succ _) HZ0.out) (fun j hj => by cases hj; exact Nat.le_succ _)); have hbx := (HE.out.on (aBelow _ (.cells #[] 81))).grown hgrow5 (by intro e; injection e with e; exact absurd (show wr.heap.size = wr.heap.size + 1 from e) (by omega)); have hnn := own_some HO5.out (fun e => by have := (hnil5.1 e).1; cases this); clear hown5 hgrow5 hnil5; obtain ⟨rs, ho, hm, hsafe⟩ := HO.out; have hrl : rs.length = S.length := (by rw [← hm, List.length_map]); obtain ⟨bx, PO, PZ, P1, PK⟩ := put_entry (w0 := w0) ho hsafe (Nat.le_of_lt hb0) hwz HD.out (Nat.le_refl _) hbx dB.out HO5.out (Nat.lt_succ_self _); have PO := Lib.hid PO; have PZ := Lib.hid PZ; have P1 := Lib.hid P1; have PK := Lib.hid PK; have HRL := Lib.hid hrl; have HM := Lib.hid hm; have HNW := Lib.hid (newE (w3.setCell ⟨wr.heap.size, 2, none⟩ v5) p0 p1 v5); have hzs : (w3.setCell ⟨wr.heap.size, 2, none⟩ v5).heap.size = w3.heap.size := (by simp); rw [hzs] at HNW; obtain ⟨p5, q5, hv5, -⟩ := hnn; subst hv5; obtain ⟨⟨y0, y1, y2⟩, y3⟩ := hbx; clear bx ho hsafe hm hzs x0 x1 x2 x3 HE dA hrl) | (at_builtin; refine wpList_append_own _ rfl _ _ 22 rfl w0.heap.size 59 j0 (.agg #[.int .i64 0, .string ⟨#[]⟩, .slice none 0 0]) 3 48 Try.underlying22 HI.out.1 HI.out.2.1 HI.out.2.2.1 HI.out.2.2.2 rfl (by decide) _ _ _ rfl PO.out ⟨w3.heap.size, 0, none⟩ 1 1 (rawC ⟨p0, p1, .slice (some ⟨p5, 0, none⟩) p2.length q5, p2⟩) rfl rfl HNW.out P1.out (by have := HRL.out; unfold maxLen; omega) (by have := HRL.out; omega) PZ.out ?_; intro v' w6 hown hgrow hnil))
      have HQ := Lib.hid (PK.out v' w6 hown hgrow)
      clear hown hgrow hnil
      exact ⟨⟨k + 1, by omega, by go_num, by rw [HN.out, ← HM.out]; exact HQ.out.1, HQ.out.2⟩, by simp [intOf]; omega⟩
    · have i1 : ¬ (k : Int) < (l.length : Int) := by omega
      have HT : Hid (l.take k = l) := List.take_of_length_le (by omega)
      rw [HT.out] at HO
      have R1 := keepC HD.out B1 hb1
      have RF : wr.frozen? ⟨rb, 0, none⟩ = false := by rw [HD.out.frozen (p := ⟨rb, 0, none⟩) hb1]; exact F1
      have RH : wr.heap[rb]? = some (.cells #[.slice none 0 0] 24 (0, 0)) := by rw [HD.out.block rb hb1]; exact H1
      have hbr : xb ≤ rb := by have := HXB.out; omega
      have HS := fun u => HO.out.set hbr hb1 RH u
      have hro := HO.out.row
      obtain ⟨a5, c5, rfl, -, -⟩ := hro.at
      have HRow := Lib.hid (HS (.slice a5 l.length c5))
      have DD := Lib.hid (((d0.out).trans (HD.out.mono (Nat.le_of_lt hb0))).setCell (p := ⟨rb, 0, none⟩) hbr (.slice a5 l.length c5))
      clear HS hro RH HO
      go_wp2_with fail
      obtain ⟨e1, e2⟩ := HXB.out
      subst e1
      exact bodyPost_ret (v := .agg #[.slice a5 l.length c5]) (by simp [results, Try.results10, go_sem, R1]) rfl ⟨⟨_, rfl, HRow.out⟩, DD.out⟩

/-! ### what is read -/
def optI : Bool → Itm → List Itm
  | true, x => [x]
  | false, _ => []
theorem readS_opt {l : List Ent} {k : Nat} (hk : k < l.length) (s : Int) (ds : List Drp) : readS (l.take (k + 1)) s ds = readS (l.take k) s ds ++ optI (decide (1 ≤ (atS (l[k]).vs s).cnt) && !dropped ds (l[k]).win s) ⟨(l[k]).win, (l[k]).key, atS (l[k]).vs s⟩ := by
  rw [readS_next hk]
  show _ ++ (if (decide (1 ≤ (atS (l[k]).vs s).cnt) && !dropped ds (l[k]).win s) = true then _ else _) = _
  cases (decide (1 ≤ (atS (l[k]).vs s).cnt) && !dropped ds (l[k]).win s) <;> rfl
theorem own_ir {base : Nat} {w : World} {v : Value} {l : List Itm} (h : w.ownsRow base 54 7 v l.length (flatG itmC l)) : IRow w v l := ownG_row itmC_len h
theorem newI (w : World) (x0 : Int) (x1 : ByteArray) (c : Cell) : ∀ j u, (itmC ⟨x0, x1, c⟩)[j]? = some u → (w.alloc (.cells #[.int .i64 x0, .string x1, .int .i64 c.cnt, .int .i64 c.sn, .bool c.so, .int .i64 c.mn, .int .i64 c.mx] 54)).cell? ((⟨w.heap.size, 0, none⟩ : Addr).add j) = some u := by
  intro j u hu
  rw [addr_add, Nat.zero_add, cell_of_row _ w.heap.size j #[.int .i64 x0, .string x1, .int .i64 c.cnt, .int .i64 c.sn, .bool c.so, .int .i64 c.mn, .int .i64 c.mx] 54 (0, 0) (heap_alloc_new _ _)]
  simpa [itmC] using hu

set_option maxRecDepth 100000 in
set_option maxHeartbeats 4000000 in
theorem refReadS_any (v vd : Value) (l : List Ent) (s : Int) (ds : List Drp) (w : World) (h : SRow w v l) (hd : DRow w vd ds) (hn : l.length ≤ 1000) (hdn : ds.length ≤ 1000000) (hv : ∀ e ∈ l, e.vs.length ≤ 1000) :
    Calls Try.prog 18 #[.agg #[v], .int .i64 s, vd] w fun e w' => (∃ v', e = .returned v' ∧ IRow w' v' (readS l s ds)) ∧ Below w.heap.size w w' := by
  obtain ⟨j0, hi, hz0, hz1, hz2⟩ := info54
  have HI := Lib.hid (And.intro hi (And.intro hz0 (And.intro hz1 hz2)))
  clear hi hz0 hz1 hz2
  obtain ⟨a, c, rfl, hc, hl⟩ := h.at
  have d0 := Lib.hid (aBelow w (.cells #[.slice a l.length c] 24))
  have HL := Lib.hid (hl.on d0.out)
  have HV := Lib.hid (fun k (hk : k < l.length) => hv _ (List.getElem_mem hk))
  have HDR := Lib.hid (hd.on d0.out)
  obtain ⟨ad, cd, rfl, -, -⟩ := hd
  obtain ⟨PS, HPS⟩ : ∃ PS, Hid (readS l s ds = PS) := ⟨_, rfl⟩
  rw [HPS.out]
  clear h hl hv
  go_enter Try.func18, Try.ntmps18
  go_wp2_with fail
  have B0 : (w.alloc (.cells #[.slice a l.length c] 24)).cell? ⟨w.heap.size, 0, none⟩ = some (.slice a l.length c) := by simp
  have hb0 : w.heap.size < (w.alloc (.cells #[.slice a l.length c] 24)).heap.size := by simp
  generalize w.alloc (.cells #[.slice a l.length c] 24) = w0 at *
  generalize hxb : w.heap.size = xb at *
  have HXB := Lib.hid hxb
  clear hxb
  go_loopw [7, 8] (fun out i wr => ∃ k : Nat, k ≤ l.length ∧ i = .int .i64 k ∧ Hid (wr.ownsRow w0.heap.size 54 7 out (readS (l.take k) s ds).length (flatG itmC (readS (l.take k) s ds))) ∧ Hid (Below w0.heap.size w0 wr)) (fun _ i _ => l.length - (intOf i).toNat)
  case atStart => exact ⟨0, Nat.zero_le _, rfl, ownG_nil _ _ _, Below.refl _ _⟩
  case round =>
    obtain ⟨k, hk, rfl, HO, HD⟩ := hrel
    have R0 := keepC HD.out B0 hb0
    by_cases hlt : k < l.length
    · obtain ⟨b, o, rfl, hbb, L0⟩ := HL.out (ne_of_lt hlt)
      obtain ⟨s1, e1, e2, e3, r1⟩ := (L0.on hbb HD.out) k hlt
      have i1 : (k : Int) < (l.length : Int) := by omega
      have i2 : (0 : Int) ≤ (k : Int) := by omega
      have HN := Lib.hid (readS_opt hlt s ds)
      have hlv := HV.out k hlt
      have hpl : (readS (l.take k) s ds).length ≤ k := Nat.le_trans (readS_len _ _ _) (by rw [List.length_take]; omega)
      have HR1 := Lib.hid r1
      have HDC := Lib.hid (fun W (d : Below wr.heap.size wr W) (wi t : Int) => refDropped_any (.slice ad ds.length cd) ds wi t W ((HDR.out.on HD.out).on d) hdn)
      obtain ⟨sa, sc, rfl, -, -⟩ := r1
      generalize l[k] = x at *
      obtain ⟨p0, p1, p2⟩ := x
      simp only at e1 e2 e3 hlv HN
      have HAC := Lib.hid (fun W (d : Below wr.heap.size wr W) => refAt_any (.slice sa p2.length sc) p2 s W (HR1.out.on d) (by omega))
      generalize readS (l.take k) s ds = S at *
      have hwz := HD.out.size
      have dA := Lib.hid (aBelow wr (.cells #[.int .i64 p0, .string p1, .slice sa p2.length sc] 59))
      have HE := Lib.hid (EBox.new wr p0 p1 (.slice sa p2.length sc))
      clear L0 HL hbb
      unfold celV at HAC
      generalize atS p2 s = C at *
      obtain ⟨z0, z1, z2, z3, z4⟩ := C
      simp only at HAC HN
      go_wp2_with fail
      refine (HAC.out _ dA.out).mono ?_
      rintro e w2 ⟨rfl, n2⟩
      have d2 := Lib.hid ((dA.out).trans (n2.mono dA.out.size))
      have hbx := HE.out.on n2
      clear HE dA n2 HAC
      have hbx2 := hbx.on (aBelow w2 (.cells #[.int .i64 z0, .int .i64 z1, .bool z2, .int .i64 z3, .int .i64 z4] 52))
      have d3 := Lib.hid ((d2.out).alloc d2.out.size (.cells #[.int .i64 z0, .int .i64 z1, .bool z2, .int .i64 z3, .int .i64 z4] 52))
      obtain ⟨⟨x0, x1, x2⟩, x3⟩ := hbx2
      by_cases hc1 : 1 ≤ z0
      · have q1 : decide (1 ≤ z0) = true := decide_eq_true hc1
        have q2 : (1 : Int) ≤ z0 := hc1
        go_wp2_with fail
        refine (HDC.out _ d3.out _ _).mono ?_
        rintro e w4 ⟨rfl, rfl⟩
        cases T : dropped ds p0 s
        · have HT := Lib.hid (HN.out.trans (by rw [q1, T]; rfl : _ = S ++ [⟨p0, p1, ⟨z0, z1, z2, z3, z4⟩⟩]))
          clear HN T
          have HB := Lib.hid (newI (w2.alloc (.cells #[.int .i64 z0, .int .i64 z1, .bool z2, .int .i64 z3, .int .i64 z4] 52)) p0 p1 ⟨z0, z1, z2, z3, z4⟩)
          have hz : (w2.alloc (.cells #[.int .i64 z0, .int .i64 z1, .bool z2, .int .i64 z3, .int .i64 z4] 52)).heap.size = w2.heap.size + 1 := by simp
          rw [hz] at HB
          have d4 := Lib.hid ((d3.out).alloc d3.out.size (.cells #[.int .i64 p0, .string p1, .int .i64 z0, .int .i64 z1, .bool z2, .int .i64 z3, .int .i64 z4] 54))
          have HOB := Lib.hid (own_on HO.out d4.out)
          have HZ := Lib.hid (Nat.le_trans hwz d4.out.size)
          clear hz
          go_wp2_with (first | (at_builtin; refine wpList_append_own _ rfl _ _ 36 rfl w0.heap.size 54 j0 (.agg #[.int .i64 0, .string ⟨#[]⟩, .int .i64 0, .int .i64 0, .bool false, .int .i64 0, .int .i64 0]) 7 64 Try.underlying36 HI.out.1 HI.out.2.1 HI.out.2.2.1 HI.out.2.2.2 rfl (by decide) _ _ _ rfl HOB.out ⟨w2.heap.size + 1, 0, none⟩ 1 1 (itmC ⟨p0, p1, ⟨z0, z1, z2, z3, z4⟩⟩) rfl rfl HB.out (itmC_one _) (by unfold maxLen; omega) (by omega) HZ.out ?_; intro v' w6 hown hgrow hnil))
          have HQ := Lib.hid (ownG_next hown)
          have HQ2 := Lib.hid ((HD.out.trans (d4.out.mono hwz)).grown hgrow HZ.out (fun j hj => (HOB.out.lt j hj).1))
          clear hown hgrow hnil
          exact ⟨⟨k + 1, by omega, by go_num, by rw [HT.out]; exact HQ.out, HQ2.out⟩, by simp [intOf]; omega⟩
        · have HT := Lib.hid (HN.out.trans (by rw [q1, T]; exact List.append_nil S : _ = S))
          clear HN T
          have HO1 := Lib.hid (own_on HO.out d3.out)
          have HD1 := Lib.hid (HD.out.trans (d3.out.mono hwz))
          go_wp2_with fail
          exact ⟨⟨k + 1, by omega, by go_num, by rw [HT.out]; exact HO1.out, HD1.out⟩, by simp [intOf]; omega⟩
      · have q1 : decide (1 ≤ z0) = false := decide_eq_false hc1
        have q2 : ¬ (1 : Int) ≤ z0 := hc1
        have HT := Lib.hid (HN.out.trans (by rw [q1, Bool.false_and]; exact List.append_nil S : _ = S))
        have HO1 := Lib.hid (own_on HO.out d3.out)
        have HD1 := Lib.hid (HD.out.trans (d3.out.mono hwz))
        clear HN hc1
        go_wp2_with fail
        exact ⟨⟨k + 1, by omega, by go_num, by rw [HT.out]; exact HO1.out, HD1.out⟩, by simp [intOf]; omega⟩
    · have i1 : ¬ (k : Int) < (l.length : Int) := by omega
      have HT : Hid (readS (l.take k) s ds = PS) := by show _ = _; rw [List.take_of_length_le (by omega)]; exact HPS.out
      rw [HT.out] at HO
      have HR := Lib.hid (own_ir HO.out)
      have DD := Lib.hid ((d0.out).trans (HD.out.mono (Nat.le_of_lt hb0)))
      have e := HXB.out
      subst e
      go_wp2_with fail
      go_ret
      exact ⟨⟨_, rfl, HR.out⟩, DD.out⟩
end Go.Proofs.Ythiofbohllmfbaa.Sh
