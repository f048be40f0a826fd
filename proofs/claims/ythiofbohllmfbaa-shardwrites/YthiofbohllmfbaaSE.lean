/- Shards: a write: a walk of the document's. -/
import Derived.Test.YthiofbohllmfbaaSD
namespace Go.Proofs.Ythiofbohllmfbaa.Sh
open Go Go.RowKit Go.Sort Go.Lib Cl Ce Ch

/-- A shard's box and a write's, as they lie. -/
def AB (xb wb : Nat) (sv : Value) (w0 w1 : Int) (w2 : ByteArray) (w3 : Int) (w : World) : Prop :=
  w.cell? ⟨xb, 0, none⟩ = some sv ∧ w.cell? ⟨wb, 0, none⟩ = some (.int .i64 w0) ∧ w.cell? ⟨wb, 1, none⟩ = some (.int .i64 w1) ∧ w.cell? ⟨wb, 2, none⟩ = some (.string w2) ∧ w.cell? ⟨wb, 3, none⟩ = some (.int .i64 w3)
theorem AB.on {xb wb : Nat} {sv : Value} {w0 w1 : Int} {w2 : ByteArray} {w3 : Int} {w W : World} (h : AB xb wb sv w0 w1 w2 w3 w) (n : Below w.heap.size w W) : AB xb wb sv w0 w1 w2 w3 W := by
  obtain ⟨h0, h1, h2, h3, h4⟩ := h
  exact ⟨keepC n h0 (World.block_lt_of_cell? _ _ h0), keepC n h1 (World.block_lt_of_cell? _ _ h1), keepC n h2 (World.block_lt_of_cell? _ _ h2), keepC n h3 (World.block_lt_of_cell? _ _ h3), keepC n h4 (World.block_lt_of_cell? _ _ h4)⟩
theorem step_append_any {P : Program} {ops : Array Oper} {o : Oper} {a : Act} {K : Act → World → Prop} {Q : Exit → Act → World → Prop} {E : Prop} (w : World) (hgd : o.guard = none) (s x : Operand) (t : TypeId)
    (ho : o.op = .call { callee := .builtin .append, args := #[s, x], argTypes := #[t, t] })
    (base : Nat) (e : TypeId) (i : TypeInfo) (z : Value) (size bytes : Nat) (ht : P.underlying t = some (.slice e)) (hi : P.info? e = some i) (hz : i.zero = some z)
    (hsize : i.size = size) (hby : i.bytes = bytes) (hzs : z.cells.size = size) (hsz : 0 < size)
    (v : Value) (n : Nat) (xs : List Value) (hs : a.eval s = v) (hown : w.ownsRow base e size v n xs)
    (ad : Option Addr) (m c : Nat) (news : List Value) (hx : a.eval x = .slice ad m c) (hl : news.length = m * size) (hnil : ad = none → m = 0) (hnews : ∀ p, ad = some p → ∀ j u, news[j]? = some u → w.cell? (p.add j) = some u) (h1 : ∀ u ∈ news, u.oneCell' = true)
    (h63 : n + m ≤ maxLen) (hbytes : (n + m) * bytes ≤ 140737488355328) (hbase : base ≤ w.heap.size)
    (h : ∀ v' w', w'.ownsRow base e size v' (n + m) (xs ++ news) → w.grownBy w' v.ownBlock → (v' = .slice none 0 0 ↔ v = .slice none 0 0 ∧ m = 0) → K (a.put o.dst v') w') :
    if Region.wanted o (yielded ops a.tmps) = true then Oper.wp P o a w K Q else E := by
  cases ad with
  | some p => exact step_append_own w hgd s x t ho base e i z size bytes ht hi hz hsize hby hzs hsz v n xs hs hown p m c news hx hl (hnews p rfl) h1 h63 hbytes hbase h
  | none =>
    have hm := hnil rfl
    subst hm
    have hn : news = [] := by simpa using hl
    subst hn
    have hw : Region.wanted o (yielded ops a.tmps) = true := by simp [Region.wanted, hgd]
    rw [if_pos hw]
    have hrun := run_append_nil (P := P) (w := w) base t o.type e i size ht hi v n xs hown c
    unfold Oper.wp
    simp [execOp, ho, resolve, invoke, builtin, hs, hx, hrun, Result.andThen]
    exact h v w (by simpa using hown) (World.grownBy.refl _ _) (by simp)
/-- A slice's two parts, by the address. -/
theorem cutS_head (a : Option Addr) (c n k : Nat) (hk : k ≤ c) (w : World) : Sem.run Try.prog (Instr.sliceAt 22 (.slice a n c) none (some (.int .i64 (k : Int))) none) w = .ok (.slice a k c) w := by
  have h0 : (0 : Int) ≤ (k : Int) := by omega
  have h1 : (k : Int) ≤ (c : Int) := by omega
  have hu := Try.underlying22
  go_simp
theorem cutS_tail (a : Option Addr) (c n k : Nat) (hk : k ≤ n) (w : World) : Sem.run Try.prog (Instr.sliceAt 22 (.slice a n c) (some (.int .i64 (k : Int))) none none) w = .ok (.slice (if c = k then a else a.map (·.add (k * 3))) (n - k) (c - k)) w := by
  have h0 : (0 : Int) ≤ (k : Int) := by omega
  have h1 : (k : Int) ≤ (n : Int) := by omega
  have hu := Try.underlying22
  go_simp
theorem cutS_one (a : Option Addr) (c n : Nat) (hk : 1 ≤ n) (w : World) : Sem.run Try.prog (Instr.sliceAt 22 (.slice a n c) (some (.int .i64 1)) none none) w = .ok (.slice (if c = 1 then a else a.map (·.add 3)) (n - 1) (c - 1)) w := by
  have h := cutS_tail a c n 1 hk w
  simpa using h

theorem ab_on {b1 b2 b3 o3 : Nat} {v1 v2 v3 v4 v5 v6 v7 v8 : Value} {wr W W2 : World} (h : W.cell? ⟨b1, 0, none⟩ = some v1 ∧ W.cell? ⟨b2, 0, none⟩ = some v2 ∧ W.cell? ⟨b2, 1, none⟩ = some v3 ∧ W.cell? ⟨b2, 2, none⟩ = some v4 ∧ W.cell? ⟨b2, 3, none⟩ = some v5 ∧ W.cell? ⟨b3, o3, none⟩ = some v6 ∧ W.cell? ⟨b3, o3 + 1, none⟩ = some v7 ∧ W.cell? ⟨b3, o3 + 2, none⟩ = some v8 ∧ Below wr.heap.size wr W) (n : Below W.heap.size W W2) :
    W2.cell? ⟨b1, 0, none⟩ = some v1 ∧ W2.cell? ⟨b2, 0, none⟩ = some v2 ∧ W2.cell? ⟨b2, 1, none⟩ = some v3 ∧ W2.cell? ⟨b2, 2, none⟩ = some v4 ∧ W2.cell? ⟨b2, 3, none⟩ = some v5 ∧ W2.cell? ⟨b3, o3, none⟩ = some v6 ∧ W2.cell? ⟨b3, o3 + 1, none⟩ = some v7 ∧ W2.cell? ⟨b3, o3 + 2, none⟩ = some v8 ∧ Below wr.heap.size wr W2 := by
  obtain ⟨h0, h1, h2, h3, h4, h5, h6, h7, h8⟩ := h
  exact ⟨keepC n h0 (World.block_lt_of_cell? _ _ h0), keepC n h1 (World.block_lt_of_cell? _ _ h1), keepC n h2 (World.block_lt_of_cell? _ _ h2), keepC n h3 (World.block_lt_of_cell? _ _ h3), keepC n h4 (World.block_lt_of_cell? _ _ h4), keepC n h5 (World.block_lt_of_cell? _ _ h5), keepC n h6 (World.block_lt_of_cell? _ _ h6), keepC n h7 (World.block_lt_of_cell? _ _ h7), h8.trans (n.mono h8.size)⟩

theorem applyS_bad {l : List Ent} {w : Wri} {k : Nat} {o : List Ver} (h1 : sright l = true) (h2 : aheadN w.win w.key l = k) (h3 : oldV w.win w.key (l.drop k) = o) (hf : foldV o w.st w.val = ([], 9)) : applyS l w = ([], 9) := by
  unfold applyS
  rw [if_pos h1, h2, h3, hf, if_neg (by decide)]
theorem applyS_ok {l : List Ent} {w : Wri} {k t : Nat} {o vs : List Ver} (h1 : sright l = true) (h2 : aheadN w.win w.key l = k) (h3 : oldV w.win w.key (l.drop k) = o) (h4 : oldN w.win w.key (l.drop k) = t) (hf : foldV o w.st w.val = (vs, 0)) : applyS l w = (l.take k ++ [⟨w.win, w.key, vs⟩] ++ l.drop (k + t), 0) := by
  unfold applyS
  rw [if_pos h1, h2, h3, h4, hf, if_pos rfl]
theorem map_take_drop {rs : List Raw} {l : List Ent} (h : rs.map abs = l) (k : Nat) : (rs.take k).map abs = l.take k ∧ (rs.drop k).map abs = l.drop k := by
  subst h; exact ⟨List.map_take, List.map_drop⟩
theorem vold_all {b1 : Nat} {w W : World} {rs : List Raw} (h : ∀ r ∈ rs, VRow w r.sl r.vs) (hb : w.heap.size = b1) (n : Below b1 w W) : ∀ r ∈ rs, VSafe b1 W r.sl r.vs := fun r hr => vsafe_old (h r hr) hb n
theorem rb_keep {W W1 : World} {rb : Nat} {cur : Array Value} (h : W.heap[rb]? = some (.cells cur 24 (0, 0))) (hz : rb < W.heap.size) (n : Below W.heap.size W W1) : W1.heap[rb]? = some (.cells cur 24 (0, 0)) := by rw [n.block rb hz]; exact h

theorem own_k {w : World} {base : Nat} {v : Value} {n k : Nat} {xs : List Value} (h : n = k) (ho : w.ownsRow base 59 3 v k xs) : w.ownsRow base 59 3 v n xs := by subst h; exact ho
theorem ent_grown {w w1 : World} {n m : Nat} {xs : List Value} {r : Option Nat} (h : ∀ j u, xs[j]? = some u → w.cell? ((⟨n, 0, none⟩ : Addr).add j) = some u) (hn : n = m) (hg : w.grownBy w1 r) (hr : some m ≠ r) : ∀ j u, xs[j]? = some u → w1.cell? ((⟨m, 0, none⟩ : Addr).add j) = some u := by
  subst hn
  intro j u hu
  have := h j u hu
  rw [addr_add] at this ⊢
  exact hg.cell this hr
theorem ent_alloc {w : World} {n : Nat} {xs : List Value} (h : ∀ j u, xs[j]? = some u → w.cell? ((⟨n, 0, none⟩ : Addr).add j) = some u) (o : Obj) : ∀ j u, xs[j]? = some u → (w.alloc o).cell? ((⟨n, 0, none⟩ : Addr).add j) = some u := fun j u hu => cell_kept (h j u hu) o

set_option maxRecDepth 100000 in
set_option maxHeartbeats 8000000 in
theorem refApplyS_any (v : Value) (l : List Ent) (w0 w1 : Int) (w2 : ByteArray) (w3 : Int) (w : World) (h : SRow w v l) (hn : l.length ≤ 1000) (hv : ∀ e ∈ l, e.vs.length ≤ 900) (hvo : ∀ e ∈ l, ∀ y ∈ e.vs, okV y) (hx : ok64 w3) :
    Calls Try.prog 12 #[.agg #[v], .agg #[.int .i64 w0, .int .i64 w1, .string w2, .int .i64 w3]] w fun e w' => (∃ v', e = .returned (.tuple #[.agg #[v'], .int .i64 (applyS l ⟨w0, w1, w2, w3⟩).2]) ∧ SRow w' v' (applyS l ⟨w0, w1, w2, w3⟩).1) ∧ Below w.heap.size w w' := by
  obtain ⟨j0, hi, hz0, hz1, hz2⟩ := info59
  have HI := Lib.hid (And.intro hi (And.intro hz0 (And.intro hz1 hz2)))
  clear hi hz0 hz1 hz2
  have HSR := Lib.hid h
  obtain ⟨a, c, rfl, hc, hl⟩ := h.at
  have d0 : Below w.heap.size w (((w.alloc (.cells #[.slice a l.length c] 24)).alloc (.cells #[.int .i64 w0, .int .i64 w1, .string w2, .int .i64 w3] 26)).alloc (.cells #[.slice none 0 0] 24)) := (aBelow2 _ _ _).alloc (by simp; omega) _
  have HL := Lib.hid (hl.on d0)
  have HV := Lib.hid hv
  have HVO := Lib.hid hvo
  have HC := Lib.hid hc
  have HRC := Lib.hid (refRightS_any (.slice a l.length c) l (((w.alloc (.cells #[.slice a l.length c] 24)).alloc (.cells #[.int .i64 w0, .int .i64 w1, .string w2, .int .i64 w3] 26)).alloc (.cells #[.slice none 0 0] 24)) (HSR.out.on d0) (by omega) (fun e he => Nat.le_trans (hv e he) (by omega)))
  obtain ⟨rs, hg, hmp, hvr⟩ := h
  have HG := Lib.hid hg
  have HMP := Lib.hid hmp
  have HVR0 := Lib.hid hvr
  have HRSL : Hid (rs.length = l.length) := by show _ = _; rw [← hmp, List.length_map]
  clear hg hmp hvr hl hv hvo hc
  go_enter Try.func12, Try.ntmps12
  go_wp2_with fail
  have hab : AB w.heap.size (w.heap.size + 1) (.slice a l.length c) w0 w1 w2 w3 (((w.alloc (.cells #[.slice a l.length c] 24)).alloc (.cells #[.int .i64 w0, .int .i64 w1, .string w2, .int .i64 w3] 26)).alloc (.cells #[.slice none 0 0] 24)) := ⟨cell_kept (cell_kept (by simp) _) _, cell_kept (by simp) _, cell_kept (by simp) _, cell_kept (by simp) _, cell_kept (by simp) _⟩
  have H1 : (((w.alloc (.cells #[.slice a l.length c] 24)).alloc (.cells #[.int .i64 w0, .int .i64 w1, .string w2, .int .i64 w3] 26)).alloc (.cells #[.slice none 0 0] 24)).heap[w.heap.size + 2]? = some (.cells #[.slice none 0 0] 24 (0, 0)) := by have := heap_alloc_new ((w.alloc (.cells #[.slice a l.length c] 24)).alloc (.cells #[.int .i64 w0, .int .i64 w1, .string w2, .int .i64 w3] 26)) (.cells #[.slice none 0 0] 24); simpa using this
  have HB0 := Lib.hid hab
  have hbz : w.heap.size + 2 < (((w.alloc (.cells #[.slice a l.length c] 24)).alloc (.cells #[.int .i64 w0, .int .i64 w1, .string w2, .int .i64 w3] 26)).alloc (.cells #[.slice none 0 0] 24)).heap.size := by simp
  generalize ((w.alloc (.cells #[.slice a l.length c] 24)).alloc (.cells #[.int .i64 w0, .int .i64 w1, .string w2, .int .i64 w3] 26)).alloc (.cells #[.slice none 0 0] 24) = wa at *
  have d0 := Lib.hid d0
  generalize hrb : w.heap.size + 2 = rb at *
  generalize hwb : w.heap.size + 1 = wb at *
  generalize hxb : w.heap.size = xb at *
  have HXB := Lib.hid (And.intro hxb (And.intro hwb hrb))
  have HXA : Hid (xb ≤ wa.heap.size) := by show _ ≤ _; omega
  have HXR : Hid (xb ≤ rb) := by show _ ≤ _; omega
  clear hxb hwb hrb
  obtain ⟨b0, y0, y1, y2, y3⟩ := hab
  refine (HRC.out).mono ?_
  rintro e wc ⟨rfl, nc⟩
  have HAB := Lib.hid (HB0.out.on nc)
  have DC := Lib.hid nc
  clear b0 y0 y1 y2 y3 HB0 HRC
  have RF : wa.frozen? ⟨rb, 0, none⟩ = false := by simp [World.frozen?, H1]
  have RC : wa.cell? ⟨rb, 0, none⟩ = some (.slice none 0 0) := by simp [World.cell?, H1]
  have RB := Lib.hid (And.intro H1 hbz)
  cases hsr : sright l
  · have HE : Hid (applyS l ⟨w0, w1, w2, w3⟩ = ([], 9)) := by show _ = _; unfold applyS; rw [hsr]; rfl
    have RC2 := keepC nc RC hbz
    have RF2 : wc.frozen? ⟨rb, 0, none⟩ = false := by rw [nc.frozen (p := ⟨rb, 0, none⟩) hbz]; exact RF
    have hq := HXB.out
    have DD := Lib.hid (((d0.out).trans (DC.out.mono (Nat.le_trans (by omega) (Nat.le_of_lt hbz)))).setCell (p := ⟨rb, 0, none⟩) (by show xb ≤ rb; omega) (.slice none 0 0))
    clear RF RC hq nc hbz H1
    go_wp2_with fail
    obtain ⟨e1, _, _⟩ := HXB.out
    subst e1
    refine bodyPost_ret (v := .tuple #[.agg #[.slice none 0 0], .int .i64 9]) (by simp [results, Try.results12, go_sem, RC2]) rfl ⟨⟨.slice none 0 0, ?_, ?_⟩, DD.out⟩
    · rw [HE.out]
    · rw [HE.out]; exact SRow.nil _
  · have HSRT := Lib.hid hsr
    clear nc hbz H1 RF RC hsr
    obtain ⟨b0, y0, y1, y2, y3⟩ := HAB.out
    go_wp2_with fail
    go_loopw [6] (fun i wr => ∃ k : Nat, k ≤ l.length ∧ i = .int .i64 k ∧ Hid (Below wc.heap.size wc wr) ∧ Hid (∀ j (hj : j < l.length), j < k → plt (l[j]).win (l[j]).key w1 w2 = true)) (fun i _ => l.length - (intOf i).toNat)
    case atStart => exact ⟨0, Nat.zero_le _, rfl, Below.refl _ _, fun j _ hj => absurd hj (Nat.not_lt_zero j)⟩
    case round =>
      obtain ⟨k, hk, rfl, HD, HT⟩ := hrel
      clear b0 y0 y1 y2 y3
      have HABr := Lib.hid (HAB.out.on HD.out)
      obtain ⟨b0, y0, y1, y2, y3⟩ := HABr.out
      by_cases hlt : k < l.length
      · have i1 : (k : Int) < (l.length : Int) := by omega
        have i2 : (0 : Int) ≤ (k : Int) := by omega
        have q0 : decide ((k : Int) < (l.length : Int)) = true := decide_eq_true i1
        obtain ⟨b, o, rfl, hbb, L0⟩ := HL.out (ne_of_lt hlt)
        have hL1 := (L0.on hbb DC.out).on (Nat.lt_of_lt_of_le hbb DC.out.size) HD.out
        obtain ⟨s1, e1, e2, e3, r1⟩ := hL1 k hlt
        have HR1 := Lib.hid r1
        obtain ⟨sa, sc, rfl, -, -⟩ := r1
        have HY : Hid (plt (l[k]).win (l[k]).key w1 w2 = true → ∀ j (hj : j < l.length), j < k + 1 → plt (l[j]).win (l[j]).key w1 w2 = true) := fun h j hj hjk => by
          by_cases q : j < k
          · exact HT.out j hj q
          · have : j = k := by omega
            subst this; exact h
        have HK := Lib.hid hlt
        generalize hx1 : l[k] = x at e1 e2 e3 HR1 HY
        have HX := Lib.hid hx1
        clear hx1
        obtain ⟨p0, p1, p2⟩ := x
        simp only at e1 e2 e3 HR1 HY
        have hS : wr.drew.cell? ⟨xb, 0, none⟩ = some (.slice (some ⟨b, o, none⟩) l.length c) ∧ wr.drew.cell? ⟨wb, 0, none⟩ = some (.int .i64 w0) ∧ wr.drew.cell? ⟨wb, 1, none⟩ = some (.int .i64 w1) ∧ wr.drew.cell? ⟨wb, 2, none⟩ = some (.string w2) ∧ wr.drew.cell? ⟨wb, 3, none⟩ = some (.int .i64 w3) ∧ wr.drew.cell? ⟨b, o + k * 3, none⟩ = some (.int .i64 p0) ∧ wr.drew.cell? ⟨b, o + k * 3 + 1, none⟩ = some (.string p1) ∧ wr.drew.cell? ⟨b, o + k * 3 + 2, none⟩ = some (.slice sa p2.length sc) ∧ Below wr.heap.size wr wr.drew := ⟨b0, y0, y1, y2, y3, e1, e2, e3, (Below.refl _ _).drew⟩
        clear L0 hL1 hlt
        go_wp2_with fail
        clear b0 y0 y1 y2 y3 e1 e2 e3
        go_region_held3 (fun w' => w'.cell? ⟨xb, 0, none⟩ = some (.slice (some ⟨b, o, none⟩) l.length c) ∧ w'.cell? ⟨wb, 0, none⟩ = some (.int .i64 w0) ∧ w'.cell? ⟨wb, 1, none⟩ = some (.int .i64 w1) ∧ w'.cell? ⟨wb, 2, none⟩ = some (.string w2) ∧ w'.cell? ⟨wb, 3, none⟩ = some (.int .i64 w3) ∧ w'.cell? ⟨b, o + k * 3, none⟩ = some (.int .i64 p0) ∧ w'.cell? ⟨b, o + k * 3 + 1, none⟩ = some (.string p1) ∧ w'.cell? ⟨b, o + k * 3 + 2, none⟩ = some (.slice sa p2.length sc) ∧ Below wr.heap.size wr w') (first | exact hS | exact hS3) (first
          | (go_at_call 29; refine (refLess_any p0 w1 p1 w2 sa p2.length sc _).mono ?_; rintro e w5 ⟨rfl, n5⟩; have hS3 := ab_on hS n5)
          | fail)
        have hwz := HD.out.size
        obtain ⟨b0, y0, y1, y2, y3, e1, e2, e3, d5⟩ := hS3
        have D5 := Lib.hid d5
        have DR := Lib.hid (HD.out.trans (d5.mono hwz))
        clear hS d5 n5
        cases T : plt p0 p1 w1 w2
        · have HAN : Hid (aheadN w1 w2 l = k) := aheadN_at w1 w2 l k hk HT.out (fun hk' => (congrArg (fun (z : Ent) => plt z.win z.key w1 w2) HX.out).trans T)
          have HDK : Hid (l.drop k = ⟨p0, p1, p2⟩ :: l.drop (k + 1)) := (List.drop_eq_getElem_cons HK.out).trans (congrArg (fun (z : Ent) => z :: l.drop (k + 1)) HX.out)
          have hcut : ∀ w', Sem.run Try.prog (Instr.sliceAt 22 (.slice (some ⟨b, o, none⟩) l.length c) (some (.int .i64 (k : Int))) none none) w' = .ok (.slice (some ⟨b, o + k * 3, none⟩) (l.length - k) (c - k)) w' := fun w' => by
            have h := cutS_tail (some ⟨b, o, none⟩) c l.length k hk w'
            have h1 := HK.out
            have h2 := HC.out
            rw [if_neg (by omega), Option.map_some, addr_add] at h
            exact h
          have HLK : Hid ((rs.take k).length = k) := by show _ = _; rw [List.length_take, HRSL.out]; omega
          obtain ⟨m, hm⟩ : ∃ m, l.length - k = m := ⟨_, rfl⟩
          have hm0 : 0 < m := by have := HK.out; omega
          have hml : m ≤ 1000 := by omega
          have i3 : (0 : Int) < (m : Int) := by omega
          have q3 : decide ((0 : Int) < (m : Int)) = true := decide_eq_true i3
          rw [hm] at hcut
          have HCUT := Lib.hid hcut
          have HM := Lib.hid hm
          have HRLD : Hid ((rs.drop k).length = m) := by show _ = _; rw [List.length_drop, HRSL.out]; exact hm
          have HR0 : Hid (∀ W, Below xb w W → GRow rawC 3 W (.slice (some ⟨b, o + k * 3, none⟩) m (c - k)) (rs.drop k)) := fun W d => by
            have q0 := HG.out.on (show Below w.heap.size w W by rw [HXB.out.1]; exact d)
            rw [← HRSL.out] at q0
            have q1 := grow_tail q0 k
            have h1 := HK.out
            have h2 := HC.out
            rw [if_neg (by omega), Option.map_some, addr_add, HRSL.out, HM.out] at q1
            exact q1
          clear hm hcut
          have hcu := HCUT.out
          go_wp2_with fail
          clear hcu
          by_cases c1 : p0 = w1
          rotate_left
          · have q4 : (p0 == w1) = false := by simp [c1]
            have hh0 : hitE w1 w2 ⟨p0, p1, p2⟩ = false := by unfold hitE; rw [decide_eq_false c1]; rfl
            have HOLD : Hid (oldV w1 w2 (l.drop k) = []) := by show _ = _; rw [HDK.out]; show (if hitE w1 w2 ⟨p0, p1, p2⟩ = true then _ else _) = _; rw [hh0]; rfl
            have HOLN : Hid (oldN w1 w2 (l.drop k) = 0) := by show _ = _; rw [HDK.out]; show (if hitE w1 w2 ⟨p0, p1, p2⟩ = true then _ else _) = _; rw [hh0]; rfl
            clear hh0
            go_quiet (fail)
            have NT : Hid (Below wc.heap.size wc (w5.drewN nq)) := below_drewN DR.out nq
            have NR : Hid (Below wr.heap.size wr (w5.drewN nq)) := below_drewN D5.out nq
            clear b0 y0 y1 y2 y3 e1 e2 e3
            generalize w5.drewN nq = wt at *
            have HABt := Lib.hid (HAB.out.on NT.out)
            have HXT := Lib.hid (d0.out.trans ((DC.out.trans (NT.out.mono DC.out.size)).mono HXA.out))
            have HRR := Lib.hid (HR0.out wt HXT.out)
            have HRL := HRLD
            have HOL : Hid (([] : List Ver).length ≤ 999) := by show _ ≤ _; simp
            have HOK : Hid (∀ y ∈ ([] : List Ver), okV y) := fun y hy => by simp at hy
            have HDT := Lib.hid (DC.out.trans (NT.out.mono DC.out.size))
            have HFC := refFoldV_any (.slice none 0 0) (([] : List Ver)) w0 w3 wt (GRow.nil _) HOL.out HOK.out hx
            have HTL : Hid (((some (⟨b, o + k * 3, none⟩ : Addr)) = none → (m) = 0) ∧ ∀ W, Below wt.heap.size wt W → ∀ p, (some (⟨b, o + k * 3, none⟩ : Addr)) = some p → ∀ j u, (flatG rawC (rs.drop k))[j]? = some u → W.cell? (p.add j) = some u) := by
              obtain ⟨q1, q2, q3, _, q4⟩ := HRR.out
              injection q3 with z1 z2 z3
              subst z1
              exact ⟨fun h => by have := gat_none q4 h; omega, fun W d => gat_news rawC_len (by decide) (q4.on d)⟩
            have HHD : Hid (((some (⟨b, o, none⟩ : Addr)) = none → k = 0) ∧ ∀ W, Below wt.heap.size wt W → ∀ p, (some (⟨b, o, none⟩ : Addr)) = some p → ∀ j u, (flatG rawC (rs.take k))[j]? = some u → W.cell? (p.add j) = some u) := by
              have q0 := HG.out.on (show Below w.heap.size w wt by rw [HXB.out.1]; exact d0.out.trans (HDT.out.mono HXA.out))
              obtain ⟨q1, q2, q3, q5, q4⟩ := q0
              injection q3 with z1 z2 z3
              subst z1
              have q6 := gat_head q4 k
              exact ⟨fun h => by have := gat_none q6 h; rw [HLK.out] at this; exact this, fun W d => gat_news rawC_len (by decide) (q6.on d)⟩
            have HTK : Hid ((rs.take k).map abs = l.take k) := (map_take_drop HMP.out k).1
            have HTD : Hid (List.map abs (rs.drop k) = l.drop (k + 0)) := (map_take_drop HMP.out (k + 0)).2
            have HVR := Lib.hid HVR0.out
            have HOT := Lib.hid (raws_one (w := w) (rs := rs.drop k) (fun r hr => HVR.out r (List.mem_of_mem_drop hr)))
            obtain ⟨NV, hNV⟩ : ∃ NV, (([] : List Ver)) ++ [⟨w0, fold (lastC (([] : List Ver))) w3⟩] = NV := ⟨_, rfl⟩
            have HLN : Hid (NV.length = (([] : List Ver)).length + 1) := by show _ = _; rw [← hNV]; simp
            cases hvr : vright NV
            · have hf : foldV (([] : List Ver)) w0 w3 = ([], 9) := putV_no (by rw [hNV]; exact hvr)
              have HE : Hid (applyS l ⟨w0, w1, w2, w3⟩ = ([], 9)) := applyS_bad HSRT.out HAN.out HOLD.out hf
              rw [hf] at HFC
              have HFC := Lib.hid HFC
              obtain ⟨b0, y0, y1, y2, y3⟩ := HABt.out
              clear hf hvr hNV
              go_wp2_with fail
              refine (HFC.out).mono ?_
              rintro e w8 ⟨⟨v8, rfl, hv8⟩, n8⟩
              have N8 := Lib.hid (HDT.out.trans (n8.mono HDT.out.size))
              have RB8 := rb_keep RB.out.1 RB.out.2 N8.out
              have RC8 : w8.cell? ⟨rb, 0, none⟩ = some (.slice none 0 0) := by simp [World.cell?, RB8]
              have RF8 : w8.frozen? ⟨rb, 0, none⟩ = false := by simp [World.frozen?, RB8]
              obtain ⟨a8, c8, rfl, -, -⟩ := hv8.row
              have DD := Lib.hid (((d0.out).trans (N8.out.mono HXA.out)).setCell (p := ⟨rb, 0, none⟩) HXR.out (.slice none 0 0))
              clear n8 hv8 RB8
              go_wp2_with fail
              have e1 := HXB.out.1
              subst e1
              exact bodyPost_ret (v := .tuple #[.agg #[.slice none 0 0], .int .i64 9]) (by simp [results, Try.results12, go_sem, RC8]) rfl ⟨⟨.slice none 0 0, by rw [HE.out], by rw [HE.out]; exact SRow.nil _⟩, DD.out⟩
            · have hf : foldV (([] : List Ver)) w0 w3 = (NV, 0) := by rw [← hNV]; exact putV_ok (by rw [hNV]; exact hvr)
              have HE : Hid (applyS l ⟨w0, w1, w2, w3⟩ = (l.take k ++ [⟨w1, w2, NV⟩] ++ l.drop (k + 0), 0)) := applyS_ok HSRT.out HAN.out HOLD.out HOLN.out hf
              rw [hf] at HFC
              have HFC := Lib.hid HFC
              obtain ⟨b0, y0, y1, y2, y3⟩ := HABt.out
              clear hf hvr hNV
              go_wp2_with fail
              refine (HFC.out).mono ?_
              rintro e w9 ⟨⟨v6, rfl, hv6⟩, n9⟩
              have N9 := Lib.hid (HDT.out.trans (n9.mono HDT.out.size))
              have HVN0 := Lib.hid hv6
              obtain ⟨a6, c6, rfl, -, -⟩ := hv6.row
              have HAB9 := Lib.hid (HABt.out.on n9)
              have RB9 := Lib.hid (rb_keep RB.out.1 RB.out.2 N9.out)
              have HRB9 := Lib.hid (Nat.lt_of_lt_of_le RB.out.2 N9.out.size)
              have HXW := Lib.hid (d0.out.trans (N9.out.mono HXA.out))
              have HX9 : Hid (xb ≤ w9.heap.size) := by show _ ≤ _; have h1 := HXW.out.size; have h2 := HXB.out.1; omega
              have HLE := HX9
              have HWX := Lib.hid HXB.out.1
              have HVN := HVN0
              have HTL2 := Lib.hid (And.intro HTL.out.1 (fun W (d : Below w9.heap.size w9 W) => HTL.out.2 W (n9.trans (d.mono n9.size))))
              have HHD2 := Lib.hid (And.intro HHD.out.1 (fun W (d : Below w9.heap.size w9 W) => HHD.out.2 W (n9.trans (d.mono n9.size))))
              have HO1 : Hid ((∀ u ∈ flatG rawC (rs.take k), u.oneCell' = true) ∧ ∀ x ∈ rawC ⟨w1, w2, .slice a6 NV.length c6, NV⟩, x.oneCell' = true) := ⟨raws_one (fun r hr => HVR.out r (List.mem_of_mem_take hr)), rawC_one ⟨w1, w2, .slice a6 NV.length c6, NV⟩ hv6.row⟩
              clear HTL HHD hv6 HVN0 HDT HFC
              have HTL := HTL2
              have HHD := HHD2
              clear HTL2 HHD2 n9 b0 y0 y1 y2 y3
              obtain ⟨b0, y0, y1, y2, y3⟩ := HAB9.out
              go_wp2_with fail
              clear b0 y0 y1 y2 y3
              have hS : AB xb wb (.slice (some (⟨b, o, none⟩ : Addr)) l.length c) w0 w1 w2 w3 w9.drew := HAB9.out.on ((Below.refl _ _).drew)
              have HH := Lib.hid (cutS_head (some (⟨b, o, none⟩ : Addr)) c l.length k (by have := HC.out; omega))
              have NB0 : Hid (Below w9.heap.size w9 w9.drew) := (Below.refl _ _).drew
              unfold AB at hS
              have hh := HH.out
              refine wp_region_held_drew (S := fun w' => w'.cell? ⟨xb, 0, none⟩ = some (.slice (some (⟨b, o, none⟩ : Addr)) l.length c) ∧ w'.cell? ⟨wb, 0, none⟩ = some (.int .i64 w0) ∧ w'.cell? ⟨wb, 1, none⟩ = some (.int .i64 w1) ∧ w'.cell? ⟨wb, 2, none⟩ = some (.string w2) ∧ w'.cell? ⟨wb, 3, none⟩ = some (.int .i64 w3)) (by kernel_rfl) hS (fun hHeld => ?_)
              refine wpAnyH_take (i := 1) (oi := { dst := some 79, op := Op.fieldAddr 24 (Operand.tmp 2) 0, type := 0, pos := "ref.go:43", after := #[], guard := none }) (v := ?_) rfl (by kernel_rfl) (by kernel_rfl) (by kernel_rfl) (fun _ _ _ h => h) (Or.inl ⟨by rfl, ?_⟩) hHeld ?_
              rotate_left
              · intro w hSw
                (try dsimp only at hSw)
                go_simp
                (try with_reducible rfl)
              (try simp only [Act.put, List.setIfInBounds_toArray, List.set_cons_zero, List.set_cons_succ])
              refine wpAnyH_take (i := 2) (oi := { dst := some 80, op := Op.load 22 (Operand.tmp 79), type := 22, pos := "ref.go:43", after := #[{ on := 1, ground := Ground.data }], guard := none }) (v := ?_) rfl (by kernel_rfl) (by kernel_rfl) (by kernel_rfl) (fun _ _ _ h => h) (Or.inl ⟨by rfl, ?_⟩) hHeld ?_
              rotate_left
              · intro w hSw
                (try dsimp only at hSw)
                go_simp
                (try with_reducible rfl)
              (try simp only [Act.put, List.setIfInBounds_toArray, List.set_cons_zero, List.set_cons_succ])
              refine wpAnyH_take (i := 3) (oi := { dst := some 81, op := Op.move (Operand.tmp 6), type := 3, pos := "ref.go:43", after := #[], guard := none }) (v := ?_) rfl (by kernel_rfl) (by kernel_rfl) (by kernel_rfl) (fun _ _ _ h => h) (Or.inl ⟨by rfl, ?_⟩) hHeld ?_
              rotate_left
              · intro w hSw
                (try dsimp only at hSw)
                go_simp
                (try with_reducible rfl)
              (try simp only [Act.put, List.setIfInBounds_toArray, List.set_cons_zero, List.set_cons_succ])
              refine wpAnyH_take (i := 4) (oi := { dst := some 82, op := Op.slice 22 (Operand.tmp 80) none (some (Operand.tmp 81)) none, type := 22, pos := "ref.go:43", after := #[{ on := 2, ground := Ground.data }, { on := 3, ground := Ground.data }], guard := none }) (v := ?_) rfl (by kernel_rfl) (by kernel_rfl) (by kernel_rfl) (fun _ _ _ h => h) (Or.inl ⟨by rfl, ?_⟩) hHeld ?_
              rotate_left
              · intro w hSw
                (try dsimp only at hSw)
                go_simp
                (try with_reducible rfl)
              (try simp only [Act.put, List.setIfInBounds_toArray, List.set_cons_zero, List.set_cons_succ])
              refine wpAnyH_take (i := 6) (oi := { dst := some 84, op := Op.fieldAddr 26 (Operand.tmp 3) 1, type := 0, pos := "ref.go:43", after := #[], guard := none }) (v := ?_) rfl (by kernel_rfl) (by kernel_rfl) (by kernel_rfl) (fun _ _ _ h => h) (Or.inl ⟨by rfl, ?_⟩) hHeld ?_
              rotate_left
              · intro w hSw
                (try dsimp only at hSw)
                go_simp
                (try with_reducible rfl)
              (try simp only [Act.put, List.setIfInBounds_toArray, List.set_cons_zero, List.set_cons_succ])
              refine wpAnyH_take (i := 7) (oi := { dst := some 85, op := Op.load 2 (Operand.tmp 84), type := 2, pos := "ref.go:43", after := #[{ on := 6, ground := Ground.data }], guard := none }) (v := ?_) rfl (by kernel_rfl) (by kernel_rfl) (by kernel_rfl) (fun _ _ _ h => h) (Or.inl ⟨by rfl, ?_⟩) hHeld ?_
              rotate_left
              · intro w hSw
                (try dsimp only at hSw)
                go_simp
                (try with_reducible rfl)
              (try simp only [Act.put, List.setIfInBounds_toArray, List.set_cons_zero, List.set_cons_succ])
              refine wpAnyH_take (i := 8) (oi := { dst := some 86, op := Op.fieldAddr 26 (Operand.tmp 3) 2, type := 0, pos := "ref.go:43", after := #[], guard := none }) (v := ?_) rfl (by kernel_rfl) (by kernel_rfl) (by kernel_rfl) (fun _ _ _ h => h) (Or.inl ⟨by rfl, ?_⟩) hHeld ?_
              rotate_left
              · intro w hSw
                (try dsimp only at hSw)
                go_simp
                (try with_reducible rfl)
              (try simp only [Act.put, List.setIfInBounds_toArray, List.set_cons_zero, List.set_cons_succ])
              refine wpAnyH_take (i := 9) (oi := { dst := some 87, op := Op.load 9 (Operand.tmp 86), type := 9, pos := "ref.go:43", after := #[{ on := 8, ground := Ground.data }], guard := none }) (v := ?_) rfl (by kernel_rfl) (by kernel_rfl) (by kernel_rfl) (fun _ _ _ h => h) (Or.inl ⟨by rfl, ?_⟩) hHeld ?_
              rotate_left
              · intro w hSw
                (try dsimp only at hSw)
                go_simp
                (try with_reducible rfl)
              (try simp only [Act.put, List.setIfInBounds_toArray, List.set_cons_zero, List.set_cons_succ])
              refine wpAnyH_take (i := 10) (oi := { dst := some 88, op := Op.move (Operand.tmp 7), type := 57, pos := "ref.go:43", after := #[], guard := none }) (v := ?_) rfl (by kernel_rfl) (by kernel_rfl) (by kernel_rfl) (fun _ _ _ h => h) (Or.inl ⟨by rfl, ?_⟩) hHeld ?_
              rotate_left
              · intro w hSw
                (try dsimp only at hSw)
                go_simp
                (try with_reducible rfl)
              (try simp only [Act.put, List.setIfInBounds_toArray, List.set_cons_zero, List.set_cons_succ])
              refine wpAnyH_take (i := 11) (oi := { dst := some 89, op := Op.build 59 #[(0, Operand.tmp 85), (1, Operand.tmp 87), (2, Operand.tmp 88)], type := 59, pos := "ref.go:43", after := #[{ on := 7, ground := Ground.data }, { on := 9, ground := Ground.data }, { on := 10, ground := Ground.data }], guard := none }) (v := ?_) rfl (by kernel_rfl) (by kernel_rfl) (by kernel_rfl) (fun _ _ _ h => h) (Or.inl ⟨by rfl, ?_⟩) hHeld ?_
              rotate_left
              · intro w hSw
                (try dsimp only at hSw)
                go_simp
                (try with_reducible rfl)
              (try simp only [Act.put, List.setIfInBounds_toArray, List.set_cons_zero, List.set_cons_succ])
              clear hS hh
              refine wpAnyH_ready (rs := [0, 12]) (by kernel_rfl) (by simp) ?_
              refine AllReadyH.cons (o := { dst := some 78, op := Op.buildSlice 22 0 #[], type := 22, pos := "ref.go:43", after := #[], guard := none }) rfl (fun K1 hK => ?_) ?_
              · go_simp
                have NB1 : Hid (Below w9.heap.size w9 (w9.drew.alloc (.cells #[] 59))) := NB0.out.alloc NB0.out.size _
                have O1 := Lib.hid (World.ownsRow_made (base := w9.heap.size) (e := 59) (size := 3) w9.drew #[] 0 NB0.out.size (Nat.zero_le _) (by simp))
                have S1 := HAB9.out.on NB1.out
                unfold AB at S1
                refine hK.out _ _ S1 (fun hHeld => ?_)
                clear hK K1 S1
                (try simp only [Act.put, List.setIfInBounds_toArray, List.set_cons_zero, List.set_cons_succ])
                refine wpAnyH_ready (rs := [5, 12]) (by kernel_rfl) (by simp) ?_
                refine AllReadyH.cons (o := { dst := some 83, op := Op.call { callee := Callee.builtin Builtin.append, args := #[Operand.tmp 78, Operand.tmp 82], argTypes := #[22, 22] }, type := 22, pos := "ref.go:43", after := #[{ on := 0, ground := Ground.data }, { on := 4, ground := Ground.data }], guard := none }) rfl (fun K1 hK => ?_) ?_
                · refine step_append_any (w9.drew.alloc (.cells #[] 59)) (by rfl) _ _ _ (by rfl) w9.heap.size 59 j0 _ 3 48 Try.underlying22 HI.out.1 HI.out.2.1 HI.out.2.2.1 HI.out.2.2.2 rfl (by omega) (.slice (some ⟨w9.heap.size, 0, none⟩) 0 0) 0 [] (by rfl) O1.out (some (⟨b, o, none⟩ : Addr)) k c (flatG rawC (rs.take k)) (by rfl) (by rw [flatG_len rawC_len, HLK.out]) HHD.out.1 (HHD.out.2 _ NB1.out) HO1.out.1 (by unfold maxLen; omega) (by omega) NB1.out.size ?_
                  intro v1 u2 hown1 hgrow1 hnil1
                  have O2 : Hid (u2.ownsRow w9.heap.size 59 3 v1 k (flatG rawC (rs.take k))) := by show World.ownsRow _ _ _ _ _ _ _; simpa using hown1
                  have NB2 := Lib.hid (NB1.out.grown hgrow1 NB1.out.size (fun j hj => (O1.out).lt j hj |>.1))
                  have G2 := Lib.hid hgrow1
                  have S2 := HAB9.out.on NB2.out
                  unfold AB at S2
                  clear hown1 hgrow1 hnil1
                  refine hK.out _ _ S2 (fun hHeld => ?_)
                  clear hK K1 S2
                  (try simp only [Act.put, List.setIfInBounds_toArray, List.set_cons_zero, List.set_cons_succ])
                  refine wpAnyH_ready (rs := [12]) (by kernel_rfl) (by simp) ?_
                  refine AllReadyH.cons (o := { dst := some 90, op := Op.buildSlice 22 1 #[(0, Operand.tmp 89)], type := 22, pos := "ref.go:43", after := #[{ on := 11, ground := Ground.data }], guard := none }) rfl (fun K1 hK => ?_) AllReadyH.nil
                  go_simp
                  have NB3 : Hid (Below w9.heap.size w9 (u2.alloc (.cells #[.int .i64 w1, .string w2, .slice a6 NV.length c6] 59))) := NB2.out.alloc NB2.out.size _
                  have S3 := HAB9.out.on NB3.out
                  unfold AB at S3
                  refine hK.out _ _ S3 (fun hHeld => ?_)
                  clear hK K1 S3
                  (try simp only [Act.put, List.setIfInBounds_toArray, List.set_cons_zero, List.set_cons_succ])
                  refine wpAnyH_ready (rs := [13]) (by kernel_rfl) (by simp) ?_
                  refine AllReadyH.cons (o := { dst := some 91, op := Op.call { callee := Callee.builtin Builtin.append, args := #[Operand.tmp 83, Operand.tmp 90], argTypes := #[22, 22] }, type := 22, pos := "ref.go:43", after := #[{ on := 5, ground := Ground.data }, { on := 12, ground := Ground.data }, { on := 5, ground := Ground.chain }], guard := none }) rfl (fun K1 hK => ?_) AllReadyH.nil
                  refine step_append_own (u2.alloc (.cells #[.int .i64 w1, .string w2, .slice a6 NV.length c6] 59)) (by rfl) _ _ _ (by rfl) w9.heap.size 59 j0 _ 3 48 Try.underlying22 HI.out.1 HI.out.2.1 HI.out.2.2.1 HI.out.2.2.2 rfl (by omega) v1 k (flatG rawC (rs.take k)) (by rfl) (O2.out.alloc (.cells #[.int .i64 w1, .string w2, .slice a6 NV.length c6] 59)) ⟨u2.heap.size, 0, none⟩ 1 1 (rawC ⟨w1, w2, .slice a6 NV.length c6, NV⟩) (by rfl) (by rfl) (newE u2 w1 w2 (.slice a6 NV.length c6)) HO1.out.2 (by unfold maxLen; omega) (by omega) NB3.out.size ?_
                  intro v2 wz hown2 hgrow2 hnil2
                  have NZ := Lib.hid (NB3.out.grown hgrow2 NB3.out.size (fun j hj => (World.ownsRow.lt (O2.out.alloc (.cells #[.int .i64 w1, .string w2, .slice a6 NV.length c6] 59)) j hj).1))
                  have OZ := Lib.hid (own_one (rs := rs.take k) (r := ⟨w1, w2, .slice a6 NV.length c6, NV⟩) HLE.out (own_k HLK.out (O2.out.alloc (.cells #[.int .i64 w1, .string w2, .slice a6 NV.length c6] 59))) (fun r hr => (vold_all HVR.out HWX.out (HXW.out.trans (NB3.out.mono HX9.out))) r (List.mem_of_mem_take hr)) (vsafe_own (VOwn.on HVN.out NB3.out)) (by rw [HLK.out]; exact hown2) hgrow2)
                  have SZ := HAB9.out.on NZ.out
                  unfold AB at SZ
                  clear hown2 hgrow2 hnil2
                  refine hK.out _ _ SZ (fun hHeld => ?_)
                  clear hK K1
                  (try simp only [Act.put, List.setIfInBounds_toArray, List.set_cons_zero, List.set_cons_succ])
                  refine wpAnyH_take (i := 14) (oi := { dst := some 10, op := Op.assign (Operand.tmp 91), type := 22, pos := "ref.go:43", after := #[{ on := 13, ground := Ground.data }, { on := 13, ground := Ground.chain }, { on := 0, ground := Ground.phase }, { on := 1, ground := Ground.phase }, { on := 2, ground := Ground.phase }, { on := 3, ground := Ground.phase }, { on := 4, ground := Ground.phase }, { on := 5, ground := Ground.phase }, { on := 6, ground := Ground.phase }, { on := 7, ground := Ground.phase }, { on := 8, ground := Ground.phase }, { on := 9, ground := Ground.phase }, { on := 10, ground := Ground.phase }, { on := 11, ground := Ground.phase }, { on := 12, ground := Ground.phase }, { on := 13, ground := Ground.phase }], guard := none }) (v := ?_) rfl (by kernel_rfl) (by kernel_rfl) (by kernel_rfl) (fun _ _ _ h => h) (Or.inl ⟨by rfl, ?_⟩) hHeld ?_
                  rotate_left
                  · intro w hSw
                    (try dsimp only at hSw)
                    go_simp
                    (try with_reducible rfl)
                  (try simp only [Act.put, List.setIfInBounds_toArray, List.set_cons_zero, List.set_cons_succ])
                  refine wpAnyH_done (by kernel_rfl) ?_ _
                  clear hHeld SZ
                  obtain ⟨rz, ho3, hm3, hs3⟩ := OZ.out
                  rw [HTK.out] at hm3
                  have HO3 := Lib.hid ho3
                  have HM3 := Lib.hid hm3
                  have HS3 := Lib.hid hs3
                  have hzl : rz.length = k + 1 := by
                    have e1 := congrArg List.length hm3
                    rw [List.length_map, List.length_append, List.length_take] at e1
                    simp at e1
                    omega
                  have HZL := Lib.hid hzl
                  clear ho3 hm3 hs3 hzl OZ
                  have hrr := HTL.out.2 _ NZ.out
                  go_wp2_with (first | (at_builtin; refine wpList_append_any rfl _ _ 22 rfl w9.heap.size 59 j0 (.agg #[.int .i64 0, .string ⟨#[]⟩, .slice none 0 0]) 3 48 Try.underlying22 HI.out.1 HI.out.2.1 HI.out.2.2.1 HI.out.2.2.2 rfl (by decide) _ _ _ rfl HO3.out (some (⟨b, o + k * 3, none⟩ : Addr)) (m) (c - k) (flatG rawC (rs.drop k)) rfl (by rw [flatG_len rawC_len]; exact congrArg (· * 3) HRL.out) HTL.out.1 hrr HOT.out (by have := HZL.out; unfold maxLen; omega) (by have := HZL.out; omega) NZ.out.size ?_; intro v4 w4 hown4 hgrow4 hnil4; have O4 := Lib.hid (own_mores (ms := rs.drop k) HRL.out HLE.out HO3.out HS3.out (fun r hr => (vold_all HVR.out HWX.out (HXW.out.trans (NZ.out.mono HX9.out))) r (List.mem_of_mem_drop hr)) hown4 hgrow4); have N4 := Lib.hid (NZ.out.grown hgrow4 NZ.out.size (fun j hj => (World.ownsRow.lt HO3.out j hj).1)); have hro := O4.out.row; have RB4 := rb_keep RB9.out HRB9.out N4.out; have RC4 : w4.cell? ⟨rb, 0, none⟩ = some (.slice none 0 0) := (by simp [World.cell?, RB4]); have RF4 : w4.frozen? ⟨rb, 0, none⟩ = false := (by simp [World.frozen?, RB4]); have HS4 := Lib.hid (fun u => OwnS.set O4.out HXR.out HRB9.out RB4 u); obtain ⟨a4, c4, hv4, -, -⟩ := hro.at; obtain ⟨n4, hn4⟩ : ∃ n4, (List.map abs rz ++ List.map abs (rs.drop k)).length = n4 := ⟨_, rfl⟩; rw [hn4] at hv4; clear hn4; subst hv4; clear hown4 hgrow4 hnil4 hro RB4))
                  have DD := Lib.hid ((HXW.out.trans (N4.out.mono HX9.out)).setCell (p := ⟨rb, 0, none⟩) HXR.out (.slice a4 n4 c4))
                  have HRow := HS4.out (.slice a4 n4 c4)
                  rw [HM3.out, HTD.out] at HRow
                  have HRow := Lib.hid HRow
                  have e1 := HWX.out
                  subst e1
                  exact bodyPost_ret (v := .tuple #[.agg #[.slice a4 n4 c4], .int .i64 0]) (by simp [results, Try.results12, go_sem, RC4]) rfl ⟨⟨.slice a4 n4 c4, by rw [HE.out], by rw [HE.out]; exact HRow.out⟩, DD.out⟩
                · refine AllReadyH.cons (o := { dst := some 90, op := Op.buildSlice 22 1 #[(0, Operand.tmp 89)], type := 22, pos := "ref.go:43", after := #[{ on := 11, ground := Ground.data }], guard := none }) rfl (fun K1 hK => ?_) AllReadyH.nil
                  go_simp
                  have NB2 : Hid (Below w9.heap.size w9 ((w9.drew.alloc (.cells #[] 59)).alloc (.cells #[.int .i64 w1, .string w2, .slice a6 NV.length c6] 59))) := NB1.out.alloc NB1.out.size _
                  have S2 := HAB9.out.on NB2.out
                  unfold AB at S2
                  refine hK.out _ _ S2 (fun hHeld => ?_)
                  clear hK K1 S2
                  (try simp only [Act.put, List.setIfInBounds_toArray, List.set_cons_zero, List.set_cons_succ])
                  refine wpAnyH_ready (rs := [5]) (by kernel_rfl) (by simp) ?_
                  refine AllReadyH.cons (o := { dst := some 83, op := Op.call { callee := Callee.builtin Builtin.append, args := #[Operand.tmp 78, Operand.tmp 82], argTypes := #[22, 22] }, type := 22, pos := "ref.go:43", after := #[{ on := 0, ground := Ground.data }, { on := 4, ground := Ground.data }], guard := none }) rfl (fun K1 hK => ?_) AllReadyH.nil
                  refine step_append_any ((w9.drew.alloc (.cells #[] 59)).alloc (.cells #[.int .i64 w1, .string w2, .slice a6 NV.length c6] 59)) (by rfl) _ _ _ (by rfl) w9.heap.size 59 j0 _ 3 48 Try.underlying22 HI.out.1 HI.out.2.1 HI.out.2.2.1 HI.out.2.2.2 rfl (by omega) (.slice (some ⟨w9.heap.size, 0, none⟩) 0 0) 0 [] (by rfl) (O1.out.alloc (.cells #[.int .i64 w1, .string w2, .slice a6 NV.length c6] 59)) (some (⟨b, o, none⟩ : Addr)) k c (flatG rawC (rs.take k)) (by rfl) (by rw [flatG_len rawC_len, HLK.out]) HHD.out.1 (HHD.out.2 _ NB2.out) HO1.out.1 (by unfold maxLen; omega) (by omega) NB2.out.size ?_
                  intro v1 u3 hown1 hgrow1 hnil1
                  have O3 : Hid (u3.ownsRow w9.heap.size 59 3 v1 k (flatG rawC (rs.take k))) := by show World.ownsRow _ _ _ _ _ _ _; simpa using hown1
                  have NB3 := Lib.hid (NB2.out.grown hgrow1 NB2.out.size (fun j hj => ((O1.out.alloc (.cells #[.int .i64 w1, .string w2, .slice a6 NV.length c6] 59))).lt j hj |>.1))
                  have G3 := Lib.hid hgrow1
                  have S3 := HAB9.out.on NB3.out
                  unfold AB at S3
                  clear hown1 hgrow1 hnil1
                  refine hK.out _ _ S3 (fun hHeld => ?_)
                  clear hK K1 S3
                  (try simp only [Act.put, List.setIfInBounds_toArray, List.set_cons_zero, List.set_cons_succ])
                  refine wpAnyH_ready (rs := [13]) (by kernel_rfl) (by simp) ?_
                  refine AllReadyH.cons (o := { dst := some 91, op := Op.call { callee := Callee.builtin Builtin.append, args := #[Operand.tmp 83, Operand.tmp 90], argTypes := #[22, 22] }, type := 22, pos := "ref.go:43", after := #[{ on := 5, ground := Ground.data }, { on := 12, ground := Ground.data }, { on := 5, ground := Ground.chain }], guard := none }) rfl (fun K1 hK => ?_) AllReadyH.nil
                  refine step_append_own u3 (by rfl) _ _ _ (by rfl) w9.heap.size 59 j0 _ 3 48 Try.underlying22 HI.out.1 HI.out.2.1 HI.out.2.2.1 HI.out.2.2.2 rfl (by omega) v1 k (flatG rawC (rs.take k)) (by rfl) O3.out ⟨(w9.heap.size + 1), 0, none⟩ 1 1 (rawC ⟨w1, w2, .slice a6 NV.length c6, NV⟩) (by rfl) (by rfl) (ent_grown (newE (w9.drew.alloc (.cells #[] 59)) w1 w2 (.slice a6 NV.length c6)) (by simp) G3.out (by simp [Value.ownBlock])) HO1.out.2 (by unfold maxLen; omega) (by omega) NB3.out.size ?_
                  intro v2 wz hown2 hgrow2 hnil2
                  have NZ := Lib.hid (NB3.out.grown hgrow2 NB3.out.size (fun j hj => (World.ownsRow.lt O3.out j hj).1))
                  have OZ := Lib.hid (own_one (rs := rs.take k) (r := ⟨w1, w2, .slice a6 NV.length c6, NV⟩) HLE.out (own_k HLK.out O3.out) (fun r hr => (vold_all HVR.out HWX.out (HXW.out.trans (NB3.out.mono HX9.out))) r (List.mem_of_mem_take hr)) (vsafe_own (VOwn.on HVN.out NB3.out)) (by rw [HLK.out]; exact hown2) hgrow2)
                  have SZ := HAB9.out.on NZ.out
                  unfold AB at SZ
                  clear hown2 hgrow2 hnil2
                  refine hK.out _ _ SZ (fun hHeld => ?_)
                  clear hK K1
                  (try simp only [Act.put, List.setIfInBounds_toArray, List.set_cons_zero, List.set_cons_succ])
                  refine wpAnyH_take (i := 14) (oi := { dst := some 10, op := Op.assign (Operand.tmp 91), type := 22, pos := "ref.go:43", after := #[{ on := 13, ground := Ground.data }, { on := 13, ground := Ground.chain }, { on := 0, ground := Ground.phase }, { on := 1, ground := Ground.phase }, { on := 2, ground := Ground.phase }, { on := 3, ground := Ground.phase }, { on := 4, ground := Ground.phase }, { on := 5, ground := Ground.phase }, { on := 6, ground := Ground.phase }, { on := 7, ground := Ground.phase }, { on := 8, ground := Ground.phase }, { on := 9, ground := Ground.phase }, { on := 10, ground := Ground.phase }, { on := 11, ground := Ground.phase }, { on := 12, ground := Ground.phase }, { on := 13, ground := Ground.phase }], guard := none }) (v := ?_) rfl (by kernel_rfl) (by kernel_rfl) (by kernel_rfl) (fun _ _ _ h => h) (Or.inl ⟨by rfl, ?_⟩) hHeld ?_
                  rotate_left
                  · intro w hSw
                    (try dsimp only at hSw)
                    go_simp
                    (try with_reducible rfl)
                  (try simp only [Act.put, List.setIfInBounds_toArray, List.set_cons_zero, List.set_cons_succ])
                  refine wpAnyH_done (by kernel_rfl) ?_ _
                  clear hHeld SZ
                  obtain ⟨rz, ho3, hm3, hs3⟩ := OZ.out
                  rw [HTK.out] at hm3
                  have HO3 := Lib.hid ho3
                  have HM3 := Lib.hid hm3
                  have HS3 := Lib.hid hs3
                  have hzl : rz.length = k + 1 := by
                    have e1 := congrArg List.length hm3
                    rw [List.length_map, List.length_append, List.length_take] at e1
                    simp at e1
                    omega
                  have HZL := Lib.hid hzl
                  clear ho3 hm3 hs3 hzl OZ
                  have hrr := HTL.out.2 _ NZ.out
                  go_wp2_with (first | (at_builtin; refine wpList_append_any rfl _ _ 22 rfl w9.heap.size 59 j0 (.agg #[.int .i64 0, .string ⟨#[]⟩, .slice none 0 0]) 3 48 Try.underlying22 HI.out.1 HI.out.2.1 HI.out.2.2.1 HI.out.2.2.2 rfl (by decide) _ _ _ rfl HO3.out (some (⟨b, o + k * 3, none⟩ : Addr)) (m) (c - k) (flatG rawC (rs.drop k)) rfl (by rw [flatG_len rawC_len]; exact congrArg (· * 3) HRL.out) HTL.out.1 hrr HOT.out (by have := HZL.out; unfold maxLen; omega) (by have := HZL.out; omega) NZ.out.size ?_; intro v4 w4 hown4 hgrow4 hnil4; have O4 := Lib.hid (own_mores (ms := rs.drop k) HRL.out HLE.out HO3.out HS3.out (fun r hr => (vold_all HVR.out HWX.out (HXW.out.trans (NZ.out.mono HX9.out))) r (List.mem_of_mem_drop hr)) hown4 hgrow4); have N4 := Lib.hid (NZ.out.grown hgrow4 NZ.out.size (fun j hj => (World.ownsRow.lt HO3.out j hj).1)); have hro := O4.out.row; have RB4 := rb_keep RB9.out HRB9.out N4.out; have RC4 : w4.cell? ⟨rb, 0, none⟩ = some (.slice none 0 0) := (by simp [World.cell?, RB4]); have RF4 : w4.frozen? ⟨rb, 0, none⟩ = false := (by simp [World.frozen?, RB4]); have HS4 := Lib.hid (fun u => OwnS.set O4.out HXR.out HRB9.out RB4 u); obtain ⟨a4, c4, hv4, -, -⟩ := hro.at; obtain ⟨n4, hn4⟩ : ∃ n4, (List.map abs rz ++ List.map abs (rs.drop k)).length = n4 := ⟨_, rfl⟩; rw [hn4] at hv4; clear hn4; subst hv4; clear hown4 hgrow4 hnil4 hro RB4))
                  have DD := Lib.hid ((HXW.out.trans (N4.out.mono HX9.out)).setCell (p := ⟨rb, 0, none⟩) HXR.out (.slice a4 n4 c4))
                  have HRow := HS4.out (.slice a4 n4 c4)
                  rw [HM3.out, HTD.out] at HRow
                  have HRow := Lib.hid HRow
                  have e1 := HWX.out
                  subst e1
                  exact bodyPost_ret (v := .tuple #[.agg #[.slice a4 n4 c4], .int .i64 0]) (by simp [results, Try.results12, go_sem, RC4]) rfl ⟨⟨.slice a4 n4 c4, by rw [HE.out], by rw [HE.out]; exact HRow.out⟩, DD.out⟩
              · refine AllReadyH.cons (o := { dst := some 90, op := Op.buildSlice 22 1 #[(0, Operand.tmp 89)], type := 22, pos := "ref.go:43", after := #[{ on := 11, ground := Ground.data }], guard := none }) rfl (fun K1 hK => ?_) AllReadyH.nil
                go_simp
                have NB1 : Hid (Below w9.heap.size w9 (w9.drew.alloc (.cells #[.int .i64 w1, .string w2, .slice a6 NV.length c6] 59))) := NB0.out.alloc NB0.out.size _
                have S1 := HAB9.out.on NB1.out
                unfold AB at S1
                refine hK.out _ _ S1 (fun hHeld => ?_)
                clear hK K1 S1
                (try simp only [Act.put, List.setIfInBounds_toArray, List.set_cons_zero, List.set_cons_succ])
                refine wpAnyH_ready (rs := [0]) (by kernel_rfl) (by simp) ?_
                refine AllReadyH.cons (o := { dst := some 78, op := Op.buildSlice 22 0 #[], type := 22, pos := "ref.go:43", after := #[], guard := none }) rfl (fun K1 hK => ?_) AllReadyH.nil
                go_simp
                have NB2 : Hid (Below w9.heap.size w9 ((w9.drew.alloc (.cells #[.int .i64 w1, .string w2, .slice a6 NV.length c6] 59)).alloc (.cells #[] 59))) := NB1.out.alloc NB1.out.size _
                have O2 := Lib.hid (World.ownsRow_made (base := w9.heap.size) (e := 59) (size := 3) (w9.drew.alloc (.cells #[.int .i64 w1, .string w2, .slice a6 NV.length c6] 59)) #[] 0 NB1.out.size (Nat.zero_le _) (by simp))
                have hzE : (w9.drew.alloc (.cells #[.int .i64 w1, .string w2, .slice a6 NV.length c6] 59)).heap.size = w9.heap.size + 1 := by simp
                rw [hzE] at O2
                clear hzE
                have S2 := HAB9.out.on NB2.out
                unfold AB at S2
                refine hK.out _ _ S2 (fun hHeld => ?_)
                clear hK K1 S2
                (try simp only [Act.put, List.setIfInBounds_toArray, List.set_cons_zero, List.set_cons_succ])
                refine wpAnyH_ready (rs := [5]) (by kernel_rfl) (by simp) ?_
                refine AllReadyH.cons (o := { dst := some 83, op := Op.call { callee := Callee.builtin Builtin.append, args := #[Operand.tmp 78, Operand.tmp 82], argTypes := #[22, 22] }, type := 22, pos := "ref.go:43", after := #[{ on := 0, ground := Ground.data }, { on := 4, ground := Ground.data }], guard := none }) rfl (fun K1 hK => ?_) AllReadyH.nil
                refine step_append_any ((w9.drew.alloc (.cells #[.int .i64 w1, .string w2, .slice a6 NV.length c6] 59)).alloc (.cells #[] 59)) (by rfl) _ _ _ (by rfl) w9.heap.size 59 j0 _ 3 48 Try.underlying22 HI.out.1 HI.out.2.1 HI.out.2.2.1 HI.out.2.2.2 rfl (by omega) (.slice (some ⟨(w9.heap.size + 1), 0, none⟩) 0 0) 0 [] (by rfl) O2.out (some (⟨b, o, none⟩ : Addr)) k c (flatG rawC (rs.take k)) (by rfl) (by rw [flatG_len rawC_len, HLK.out]) HHD.out.1 (HHD.out.2 _ NB2.out) HO1.out.1 (by unfold maxLen; omega) (by omega) NB2.out.size ?_
                intro v1 u3 hown1 hgrow1 hnil1
                have O3 : Hid (u3.ownsRow w9.heap.size 59 3 v1 k (flatG rawC (rs.take k))) := by show World.ownsRow _ _ _ _ _ _ _; simpa using hown1
                have NB3 := Lib.hid (NB2.out.grown hgrow1 NB2.out.size (fun j hj => (O2.out).lt j hj |>.1))
                have G3 := Lib.hid hgrow1
                have S3 := HAB9.out.on NB3.out
                unfold AB at S3
                clear hown1 hgrow1 hnil1
                refine hK.out _ _ S3 (fun hHeld => ?_)
                clear hK K1 S3
                (try simp only [Act.put, List.setIfInBounds_toArray, List.set_cons_zero, List.set_cons_succ])
                refine wpAnyH_ready (rs := [13]) (by kernel_rfl) (by simp) ?_
                refine AllReadyH.cons (o := { dst := some 91, op := Op.call { callee := Callee.builtin Builtin.append, args := #[Operand.tmp 83, Operand.tmp 90], argTypes := #[22, 22] }, type := 22, pos := "ref.go:43", after := #[{ on := 5, ground := Ground.data }, { on := 12, ground := Ground.data }, { on := 5, ground := Ground.chain }], guard := none }) rfl (fun K1 hK => ?_) AllReadyH.nil
                refine step_append_own u3 (by rfl) _ _ _ (by rfl) w9.heap.size 59 j0 _ 3 48 Try.underlying22 HI.out.1 HI.out.2.1 HI.out.2.2.1 HI.out.2.2.2 rfl (by omega) v1 k (flatG rawC (rs.take k)) (by rfl) O3.out ⟨w9.heap.size, 0, none⟩ 1 1 (rawC ⟨w1, w2, .slice a6 NV.length c6, NV⟩) (by rfl) (by rfl) (ent_grown (ent_alloc (newE w9.drew w1 w2 (.slice a6 NV.length c6)) (.cells #[] 59)) rfl G3.out (by simp [Value.ownBlock])) HO1.out.2 (by unfold maxLen; omega) (by omega) NB3.out.size ?_
                intro v2 wz hown2 hgrow2 hnil2
                have NZ := Lib.hid (NB3.out.grown hgrow2 NB3.out.size (fun j hj => (World.ownsRow.lt O3.out j hj).1))
                have OZ := Lib.hid (own_one (rs := rs.take k) (r := ⟨w1, w2, .slice a6 NV.length c6, NV⟩) HLE.out (own_k HLK.out O3.out) (fun r hr => (vold_all HVR.out HWX.out (HXW.out.trans (NB3.out.mono HX9.out))) r (List.mem_of_mem_take hr)) (vsafe_own (VOwn.on HVN.out NB3.out)) (by rw [HLK.out]; exact hown2) hgrow2)
                have SZ := HAB9.out.on NZ.out
                unfold AB at SZ
                clear hown2 hgrow2 hnil2
                refine hK.out _ _ SZ (fun hHeld => ?_)
                clear hK K1
                (try simp only [Act.put, List.setIfInBounds_toArray, List.set_cons_zero, List.set_cons_succ])
                refine wpAnyH_take (i := 14) (oi := { dst := some 10, op := Op.assign (Operand.tmp 91), type := 22, pos := "ref.go:43", after := #[{ on := 13, ground := Ground.data }, { on := 13, ground := Ground.chain }, { on := 0, ground := Ground.phase }, { on := 1, ground := Ground.phase }, { on := 2, ground := Ground.phase }, { on := 3, ground := Ground.phase }, { on := 4, ground := Ground.phase }, { on := 5, ground := Ground.phase }, { on := 6, ground := Ground.phase }, { on := 7, ground := Ground.phase }, { on := 8, ground := Ground.phase }, { on := 9, ground := Ground.phase }, { on := 10, ground := Ground.phase }, { on := 11, ground := Ground.phase }, { on := 12, ground := Ground.phase }, { on := 13, ground := Ground.phase }], guard := none }) (v := ?_) rfl (by kernel_rfl) (by kernel_rfl) (by kernel_rfl) (fun _ _ _ h => h) (Or.inl ⟨by rfl, ?_⟩) hHeld ?_
                rotate_left
                · intro w hSw
                  (try dsimp only at hSw)
                  go_simp
                  (try with_reducible rfl)
                (try simp only [Act.put, List.setIfInBounds_toArray, List.set_cons_zero, List.set_cons_succ])
                refine wpAnyH_done (by kernel_rfl) ?_ _
                clear hHeld SZ
                obtain ⟨rz, ho3, hm3, hs3⟩ := OZ.out
                rw [HTK.out] at hm3
                have HO3 := Lib.hid ho3
                have HM3 := Lib.hid hm3
                have HS3 := Lib.hid hs3
                have hzl : rz.length = k + 1 := by
                  have e1 := congrArg List.length hm3
                  rw [List.length_map, List.length_append, List.length_take] at e1
                  simp at e1
                  omega
                have HZL := Lib.hid hzl
                clear ho3 hm3 hs3 hzl OZ
                have hrr := HTL.out.2 _ NZ.out
                go_wp2_with (first | (at_builtin; refine wpList_append_any rfl _ _ 22 rfl w9.heap.size 59 j0 (.agg #[.int .i64 0, .string ⟨#[]⟩, .slice none 0 0]) 3 48 Try.underlying22 HI.out.1 HI.out.2.1 HI.out.2.2.1 HI.out.2.2.2 rfl (by decide) _ _ _ rfl HO3.out (some (⟨b, o + k * 3, none⟩ : Addr)) (m) (c - k) (flatG rawC (rs.drop k)) rfl (by rw [flatG_len rawC_len]; exact congrArg (· * 3) HRL.out) HTL.out.1 hrr HOT.out (by have := HZL.out; unfold maxLen; omega) (by have := HZL.out; omega) NZ.out.size ?_; intro v4 w4 hown4 hgrow4 hnil4; have O4 := Lib.hid (own_mores (ms := rs.drop k) HRL.out HLE.out HO3.out HS3.out (fun r hr => (vold_all HVR.out HWX.out (HXW.out.trans (NZ.out.mono HX9.out))) r (List.mem_of_mem_drop hr)) hown4 hgrow4); have N4 := Lib.hid (NZ.out.grown hgrow4 NZ.out.size (fun j hj => (World.ownsRow.lt HO3.out j hj).1)); have hro := O4.out.row; have RB4 := rb_keep RB9.out HRB9.out N4.out; have RC4 : w4.cell? ⟨rb, 0, none⟩ = some (.slice none 0 0) := (by simp [World.cell?, RB4]); have RF4 : w4.frozen? ⟨rb, 0, none⟩ = false := (by simp [World.frozen?, RB4]); have HS4 := Lib.hid (fun u => OwnS.set O4.out HXR.out HRB9.out RB4 u); obtain ⟨a4, c4, hv4, -, -⟩ := hro.at; obtain ⟨n4, hn4⟩ : ∃ n4, (List.map abs rz ++ List.map abs (rs.drop k)).length = n4 := ⟨_, rfl⟩; rw [hn4] at hv4; clear hn4; subst hv4; clear hown4 hgrow4 hnil4 hro RB4))
                have DD := Lib.hid ((HXW.out.trans (N4.out.mono HX9.out)).setCell (p := ⟨rb, 0, none⟩) HXR.out (.slice a4 n4 c4))
                have HRow := HS4.out (.slice a4 n4 c4)
                rw [HM3.out, HTD.out] at HRow
                have HRow := Lib.hid HRow
                have e1 := HWX.out
                subst e1
                exact bodyPost_ret (v := .tuple #[.agg #[.slice a4 n4 c4], .int .i64 0]) (by simp [results, Try.results12, go_sem, RC4]) rfl ⟨⟨.slice a4 n4 c4, by rw [HE.out], by rw [HE.out]; exact HRow.out⟩, DD.out⟩
          · have q4 : (p0 == w1) = true := by simp [c1]
            cases c2 : (p1.toList == w2.toList)
            · have hh0 : hitE w1 w2 ⟨p0, p1, p2⟩ = false := by unfold hitE; rw [← beq_ba, c2, Bool.and_false]
              have HOLD : Hid (oldV w1 w2 (l.drop k) = []) := by show _ = _; rw [HDK.out]; show (if hitE w1 w2 ⟨p0, p1, p2⟩ = true then _ else _) = _; rw [hh0]; rfl
              have HOLN : Hid (oldN w1 w2 (l.drop k) = 0) := by show _ = _; rw [HDK.out]; show (if hitE w1 w2 ⟨p0, p1, p2⟩ = true then _ else _) = _; rw [hh0]; rfl
              clear hh0
              go_quiet (fail)
              have NT : Hid (Below wc.heap.size wc (w5.drewN nq)) := below_drewN DR.out nq
              have NR : Hid (Below wr.heap.size wr (w5.drewN nq)) := below_drewN D5.out nq
              clear b0 y0 y1 y2 y3 e1 e2 e3
              generalize w5.drewN nq = wt at *
              have HABt := Lib.hid (HAB.out.on NT.out)
              have HXT := Lib.hid (d0.out.trans ((DC.out.trans (NT.out.mono DC.out.size)).mono HXA.out))
              have HRR := Lib.hid (HR0.out wt HXT.out)
              have HRL := HRLD
              have HOL : Hid (([] : List Ver).length ≤ 999) := by show _ ≤ _; simp
              have HOK : Hid (∀ y ∈ ([] : List Ver), okV y) := fun y hy => by simp at hy
              have HDT := Lib.hid (DC.out.trans (NT.out.mono DC.out.size))
              have HFC := refFoldV_any (.slice none 0 0) (([] : List Ver)) w0 w3 wt (GRow.nil _) HOL.out HOK.out hx
              have HTL : Hid (((some (⟨b, o + k * 3, none⟩ : Addr)) = none → (m) = 0) ∧ ∀ W, Below wt.heap.size wt W → ∀ p, (some (⟨b, o + k * 3, none⟩ : Addr)) = some p → ∀ j u, (flatG rawC (rs.drop k))[j]? = some u → W.cell? (p.add j) = some u) := by
                obtain ⟨q1, q2, q3, _, q4⟩ := HRR.out
                injection q3 with z1 z2 z3
                subst z1
                exact ⟨fun h => by have := gat_none q4 h; omega, fun W d => gat_news rawC_len (by decide) (q4.on d)⟩
              have HHD : Hid (((some (⟨b, o, none⟩ : Addr)) = none → k = 0) ∧ ∀ W, Below wt.heap.size wt W → ∀ p, (some (⟨b, o, none⟩ : Addr)) = some p → ∀ j u, (flatG rawC (rs.take k))[j]? = some u → W.cell? (p.add j) = some u) := by
                have q0 := HG.out.on (show Below w.heap.size w wt by rw [HXB.out.1]; exact d0.out.trans (HDT.out.mono HXA.out))
                obtain ⟨q1, q2, q3, q5, q4⟩ := q0
                injection q3 with z1 z2 z3
                subst z1
                have q6 := gat_head q4 k
                exact ⟨fun h => by have := gat_none q6 h; rw [HLK.out] at this; exact this, fun W d => gat_news rawC_len (by decide) (q6.on d)⟩
              have HTK : Hid ((rs.take k).map abs = l.take k) := (map_take_drop HMP.out k).1
              have HTD : Hid (List.map abs (rs.drop k) = l.drop (k + 0)) := (map_take_drop HMP.out (k + 0)).2
              have HVR := Lib.hid HVR0.out
              have HOT := Lib.hid (raws_one (w := w) (rs := rs.drop k) (fun r hr => HVR.out r (List.mem_of_mem_drop hr)))
              obtain ⟨NV, hNV⟩ : ∃ NV, (([] : List Ver)) ++ [⟨w0, fold (lastC (([] : List Ver))) w3⟩] = NV := ⟨_, rfl⟩
              have HLN : Hid (NV.length = (([] : List Ver)).length + 1) := by show _ = _; rw [← hNV]; simp
              cases hvr : vright NV
              · have hf : foldV (([] : List Ver)) w0 w3 = ([], 9) := putV_no (by rw [hNV]; exact hvr)
                have HE : Hid (applyS l ⟨w0, w1, w2, w3⟩ = ([], 9)) := applyS_bad HSRT.out HAN.out HOLD.out hf
                rw [hf] at HFC
                have HFC := Lib.hid HFC
                obtain ⟨b0, y0, y1, y2, y3⟩ := HABt.out
                clear hf hvr hNV
                go_wp2_with fail
                refine (HFC.out).mono ?_
                rintro e w8 ⟨⟨v8, rfl, hv8⟩, n8⟩
                have N8 := Lib.hid (HDT.out.trans (n8.mono HDT.out.size))
                have RB8 := rb_keep RB.out.1 RB.out.2 N8.out
                have RC8 : w8.cell? ⟨rb, 0, none⟩ = some (.slice none 0 0) := by simp [World.cell?, RB8]
                have RF8 : w8.frozen? ⟨rb, 0, none⟩ = false := by simp [World.frozen?, RB8]
                obtain ⟨a8, c8, rfl, -, -⟩ := hv8.row
                have DD := Lib.hid (((d0.out).trans (N8.out.mono HXA.out)).setCell (p := ⟨rb, 0, none⟩) HXR.out (.slice none 0 0))
                clear n8 hv8 RB8
                go_wp2_with fail
                have e1 := HXB.out.1
                subst e1
                exact bodyPost_ret (v := .tuple #[.agg #[.slice none 0 0], .int .i64 9]) (by simp [results, Try.results12, go_sem, RC8]) rfl ⟨⟨.slice none 0 0, by rw [HE.out], by rw [HE.out]; exact SRow.nil _⟩, DD.out⟩
              · have hf : foldV (([] : List Ver)) w0 w3 = (NV, 0) := by rw [← hNV]; exact putV_ok (by rw [hNV]; exact hvr)
                have HE : Hid (applyS l ⟨w0, w1, w2, w3⟩ = (l.take k ++ [⟨w1, w2, NV⟩] ++ l.drop (k + 0), 0)) := applyS_ok HSRT.out HAN.out HOLD.out HOLN.out hf
                rw [hf] at HFC
                have HFC := Lib.hid HFC
                obtain ⟨b0, y0, y1, y2, y3⟩ := HABt.out
                clear hf hvr hNV
                go_wp2_with fail
                refine (HFC.out).mono ?_
                rintro e w9 ⟨⟨v6, rfl, hv6⟩, n9⟩
                have N9 := Lib.hid (HDT.out.trans (n9.mono HDT.out.size))
                have HVN0 := Lib.hid hv6
                obtain ⟨a6, c6, rfl, -, -⟩ := hv6.row
                have HAB9 := Lib.hid (HABt.out.on n9)
                have RB9 := Lib.hid (rb_keep RB.out.1 RB.out.2 N9.out)
                have HRB9 := Lib.hid (Nat.lt_of_lt_of_le RB.out.2 N9.out.size)
                have HXW := Lib.hid (d0.out.trans (N9.out.mono HXA.out))
                have HX9 : Hid (xb ≤ w9.heap.size) := by show _ ≤ _; have h1 := HXW.out.size; have h2 := HXB.out.1; omega
                have HLE := HX9
                have HWX := Lib.hid HXB.out.1
                have HVN := HVN0
                have HTL2 := Lib.hid (And.intro HTL.out.1 (fun W (d : Below w9.heap.size w9 W) => HTL.out.2 W (n9.trans (d.mono n9.size))))
                have HHD2 := Lib.hid (And.intro HHD.out.1 (fun W (d : Below w9.heap.size w9 W) => HHD.out.2 W (n9.trans (d.mono n9.size))))
                have HO1 : Hid ((∀ u ∈ flatG rawC (rs.take k), u.oneCell' = true) ∧ ∀ x ∈ rawC ⟨w1, w2, .slice a6 NV.length c6, NV⟩, x.oneCell' = true) := ⟨raws_one (fun r hr => HVR.out r (List.mem_of_mem_take hr)), rawC_one ⟨w1, w2, .slice a6 NV.length c6, NV⟩ hv6.row⟩
                clear HTL HHD hv6 HVN0 HDT HFC
                have HTL := HTL2
                have HHD := HHD2
                clear HTL2 HHD2 n9 b0 y0 y1 y2 y3
                obtain ⟨b0, y0, y1, y2, y3⟩ := HAB9.out
                go_wp2_with fail
                clear b0 y0 y1 y2 y3
                have hS : AB xb wb (.slice (some (⟨b, o, none⟩ : Addr)) l.length c) w0 w1 w2 w3 w9.drew := HAB9.out.on ((Below.refl _ _).drew)
                have HH := Lib.hid (cutS_head (some (⟨b, o, none⟩ : Addr)) c l.length k (by have := HC.out; omega))
                have NB0 : Hid (Below w9.heap.size w9 w9.drew) := (Below.refl _ _).drew
                unfold AB at hS
                have hh := HH.out
                refine wp_region_held_drew (S := fun w' => w'.cell? ⟨xb, 0, none⟩ = some (.slice (some (⟨b, o, none⟩ : Addr)) l.length c) ∧ w'.cell? ⟨wb, 0, none⟩ = some (.int .i64 w0) ∧ w'.cell? ⟨wb, 1, none⟩ = some (.int .i64 w1) ∧ w'.cell? ⟨wb, 2, none⟩ = some (.string w2) ∧ w'.cell? ⟨wb, 3, none⟩ = some (.int .i64 w3)) (by kernel_rfl) hS (fun hHeld => ?_)
                refine wpAnyH_take (i := 1) (oi := { dst := some 79, op := Op.fieldAddr 24 (Operand.tmp 2) 0, type := 0, pos := "ref.go:43", after := #[], guard := none }) (v := ?_) rfl (by kernel_rfl) (by kernel_rfl) (by kernel_rfl) (fun _ _ _ h => h) (Or.inl ⟨by rfl, ?_⟩) hHeld ?_
                rotate_left
                · intro w hSw
                  (try dsimp only at hSw)
                  go_simp
                  (try with_reducible rfl)
                (try simp only [Act.put, List.setIfInBounds_toArray, List.set_cons_zero, List.set_cons_succ])
                refine wpAnyH_take (i := 2) (oi := { dst := some 80, op := Op.load 22 (Operand.tmp 79), type := 22, pos := "ref.go:43", after := #[{ on := 1, ground := Ground.data }], guard := none }) (v := ?_) rfl (by kernel_rfl) (by kernel_rfl) (by kernel_rfl) (fun _ _ _ h => h) (Or.inl ⟨by rfl, ?_⟩) hHeld ?_
                rotate_left
                · intro w hSw
                  (try dsimp only at hSw)
                  go_simp
                  (try with_reducible rfl)
                (try simp only [Act.put, List.setIfInBounds_toArray, List.set_cons_zero, List.set_cons_succ])
                refine wpAnyH_take (i := 3) (oi := { dst := some 81, op := Op.move (Operand.tmp 6), type := 3, pos := "ref.go:43", after := #[], guard := none }) (v := ?_) rfl (by kernel_rfl) (by kernel_rfl) (by kernel_rfl) (fun _ _ _ h => h) (Or.inl ⟨by rfl, ?_⟩) hHeld ?_
                rotate_left
                · intro w hSw
                  (try dsimp only at hSw)
                  go_simp
                  (try with_reducible rfl)
                (try simp only [Act.put, List.setIfInBounds_toArray, List.set_cons_zero, List.set_cons_succ])
                refine wpAnyH_take (i := 4) (oi := { dst := some 82, op := Op.slice 22 (Operand.tmp 80) none (some (Operand.tmp 81)) none, type := 22, pos := "ref.go:43", after := #[{ on := 2, ground := Ground.data }, { on := 3, ground := Ground.data }], guard := none }) (v := ?_) rfl (by kernel_rfl) (by kernel_rfl) (by kernel_rfl) (fun _ _ _ h => h) (Or.inl ⟨by rfl, ?_⟩) hHeld ?_
                rotate_left
                · intro w hSw
                  (try dsimp only at hSw)
                  go_simp
                  (try with_reducible rfl)
                (try simp only [Act.put, List.setIfInBounds_toArray, List.set_cons_zero, List.set_cons_succ])
                refine wpAnyH_take (i := 6) (oi := { dst := some 84, op := Op.fieldAddr 26 (Operand.tmp 3) 1, type := 0, pos := "ref.go:43", after := #[], guard := none }) (v := ?_) rfl (by kernel_rfl) (by kernel_rfl) (by kernel_rfl) (fun _ _ _ h => h) (Or.inl ⟨by rfl, ?_⟩) hHeld ?_
                rotate_left
                · intro w hSw
                  (try dsimp only at hSw)
                  go_simp
                  (try with_reducible rfl)
                (try simp only [Act.put, List.setIfInBounds_toArray, List.set_cons_zero, List.set_cons_succ])
                refine wpAnyH_take (i := 7) (oi := { dst := some 85, op := Op.load 2 (Operand.tmp 84), type := 2, pos := "ref.go:43", after := #[{ on := 6, ground := Ground.data }], guard := none }) (v := ?_) rfl (by kernel_rfl) (by kernel_rfl) (by kernel_rfl) (fun _ _ _ h => h) (Or.inl ⟨by rfl, ?_⟩) hHeld ?_
                rotate_left
                · intro w hSw
                  (try dsimp only at hSw)
                  go_simp
                  (try with_reducible rfl)
                (try simp only [Act.put, List.setIfInBounds_toArray, List.set_cons_zero, List.set_cons_succ])
                refine wpAnyH_take (i := 8) (oi := { dst := some 86, op := Op.fieldAddr 26 (Operand.tmp 3) 2, type := 0, pos := "ref.go:43", after := #[], guard := none }) (v := ?_) rfl (by kernel_rfl) (by kernel_rfl) (by kernel_rfl) (fun _ _ _ h => h) (Or.inl ⟨by rfl, ?_⟩) hHeld ?_
                rotate_left
                · intro w hSw
                  (try dsimp only at hSw)
                  go_simp
                  (try with_reducible rfl)
                (try simp only [Act.put, List.setIfInBounds_toArray, List.set_cons_zero, List.set_cons_succ])
                refine wpAnyH_take (i := 9) (oi := { dst := some 87, op := Op.load 9 (Operand.tmp 86), type := 9, pos := "ref.go:43", after := #[{ on := 8, ground := Ground.data }], guard := none }) (v := ?_) rfl (by kernel_rfl) (by kernel_rfl) (by kernel_rfl) (fun _ _ _ h => h) (Or.inl ⟨by rfl, ?_⟩) hHeld ?_
                rotate_left
                · intro w hSw
                  (try dsimp only at hSw)
                  go_simp
                  (try with_reducible rfl)
                (try simp only [Act.put, List.setIfInBounds_toArray, List.set_cons_zero, List.set_cons_succ])
                refine wpAnyH_take (i := 10) (oi := { dst := some 88, op := Op.move (Operand.tmp 7), type := 57, pos := "ref.go:43", after := #[], guard := none }) (v := ?_) rfl (by kernel_rfl) (by kernel_rfl) (by kernel_rfl) (fun _ _ _ h => h) (Or.inl ⟨by rfl, ?_⟩) hHeld ?_
                rotate_left
                · intro w hSw
                  (try dsimp only at hSw)
                  go_simp
                  (try with_reducible rfl)
                (try simp only [Act.put, List.setIfInBounds_toArray, List.set_cons_zero, List.set_cons_succ])
                refine wpAnyH_take (i := 11) (oi := { dst := some 89, op := Op.build 59 #[(0, Operand.tmp 85), (1, Operand.tmp 87), (2, Operand.tmp 88)], type := 59, pos := "ref.go:43", after := #[{ on := 7, ground := Ground.data }, { on := 9, ground := Ground.data }, { on := 10, ground := Ground.data }], guard := none }) (v := ?_) rfl (by kernel_rfl) (by kernel_rfl) (by kernel_rfl) (fun _ _ _ h => h) (Or.inl ⟨by rfl, ?_⟩) hHeld ?_
                rotate_left
                · intro w hSw
                  (try dsimp only at hSw)
                  go_simp
                  (try with_reducible rfl)
                (try simp only [Act.put, List.setIfInBounds_toArray, List.set_cons_zero, List.set_cons_succ])
                clear hS hh
                refine wpAnyH_ready (rs := [0, 12]) (by kernel_rfl) (by simp) ?_
                refine AllReadyH.cons (o := { dst := some 78, op := Op.buildSlice 22 0 #[], type := 22, pos := "ref.go:43", after := #[], guard := none }) rfl (fun K1 hK => ?_) ?_
                · go_simp
                  have NB1 : Hid (Below w9.heap.size w9 (w9.drew.alloc (.cells #[] 59))) := NB0.out.alloc NB0.out.size _
                  have O1 := Lib.hid (World.ownsRow_made (base := w9.heap.size) (e := 59) (size := 3) w9.drew #[] 0 NB0.out.size (Nat.zero_le _) (by simp))
                  have S1 := HAB9.out.on NB1.out
                  unfold AB at S1
                  refine hK.out _ _ S1 (fun hHeld => ?_)
                  clear hK K1 S1
                  (try simp only [Act.put, List.setIfInBounds_toArray, List.set_cons_zero, List.set_cons_succ])
                  refine wpAnyH_ready (rs := [5, 12]) (by kernel_rfl) (by simp) ?_
                  refine AllReadyH.cons (o := { dst := some 83, op := Op.call { callee := Callee.builtin Builtin.append, args := #[Operand.tmp 78, Operand.tmp 82], argTypes := #[22, 22] }, type := 22, pos := "ref.go:43", after := #[{ on := 0, ground := Ground.data }, { on := 4, ground := Ground.data }], guard := none }) rfl (fun K1 hK => ?_) ?_
                  · refine step_append_any (w9.drew.alloc (.cells #[] 59)) (by rfl) _ _ _ (by rfl) w9.heap.size 59 j0 _ 3 48 Try.underlying22 HI.out.1 HI.out.2.1 HI.out.2.2.1 HI.out.2.2.2 rfl (by omega) (.slice (some ⟨w9.heap.size, 0, none⟩) 0 0) 0 [] (by rfl) O1.out (some (⟨b, o, none⟩ : Addr)) k c (flatG rawC (rs.take k)) (by rfl) (by rw [flatG_len rawC_len, HLK.out]) HHD.out.1 (HHD.out.2 _ NB1.out) HO1.out.1 (by unfold maxLen; omega) (by omega) NB1.out.size ?_
                    intro v1 u2 hown1 hgrow1 hnil1
                    have O2 : Hid (u2.ownsRow w9.heap.size 59 3 v1 k (flatG rawC (rs.take k))) := by show World.ownsRow _ _ _ _ _ _ _; simpa using hown1
                    have NB2 := Lib.hid (NB1.out.grown hgrow1 NB1.out.size (fun j hj => (O1.out).lt j hj |>.1))
                    have G2 := Lib.hid hgrow1
                    have S2 := HAB9.out.on NB2.out
                    unfold AB at S2
                    clear hown1 hgrow1 hnil1
                    refine hK.out _ _ S2 (fun hHeld => ?_)
                    clear hK K1 S2
                    (try simp only [Act.put, List.setIfInBounds_toArray, List.set_cons_zero, List.set_cons_succ])
                    refine wpAnyH_ready (rs := [12]) (by kernel_rfl) (by simp) ?_
                    refine AllReadyH.cons (o := { dst := some 90, op := Op.buildSlice 22 1 #[(0, Operand.tmp 89)], type := 22, pos := "ref.go:43", after := #[{ on := 11, ground := Ground.data }], guard := none }) rfl (fun K1 hK => ?_) AllReadyH.nil
                    go_simp
                    have NB3 : Hid (Below w9.heap.size w9 (u2.alloc (.cells #[.int .i64 w1, .string w2, .slice a6 NV.length c6] 59))) := NB2.out.alloc NB2.out.size _
                    have S3 := HAB9.out.on NB3.out
                    unfold AB at S3
                    refine hK.out _ _ S3 (fun hHeld => ?_)
                    clear hK K1 S3
                    (try simp only [Act.put, List.setIfInBounds_toArray, List.set_cons_zero, List.set_cons_succ])
                    refine wpAnyH_ready (rs := [13]) (by kernel_rfl) (by simp) ?_
                    refine AllReadyH.cons (o := { dst := some 91, op := Op.call { callee := Callee.builtin Builtin.append, args := #[Operand.tmp 83, Operand.tmp 90], argTypes := #[22, 22] }, type := 22, pos := "ref.go:43", after := #[{ on := 5, ground := Ground.data }, { on := 12, ground := Ground.data }, { on := 5, ground := Ground.chain }], guard := none }) rfl (fun K1 hK => ?_) AllReadyH.nil
                    refine step_append_own (u2.alloc (.cells #[.int .i64 w1, .string w2, .slice a6 NV.length c6] 59)) (by rfl) _ _ _ (by rfl) w9.heap.size 59 j0 _ 3 48 Try.underlying22 HI.out.1 HI.out.2.1 HI.out.2.2.1 HI.out.2.2.2 rfl (by omega) v1 k (flatG rawC (rs.take k)) (by rfl) (O2.out.alloc (.cells #[.int .i64 w1, .string w2, .slice a6 NV.length c6] 59)) ⟨u2.heap.size, 0, none⟩ 1 1 (rawC ⟨w1, w2, .slice a6 NV.length c6, NV⟩) (by rfl) (by rfl) (newE u2 w1 w2 (.slice a6 NV.length c6)) HO1.out.2 (by unfold maxLen; omega) (by omega) NB3.out.size ?_
                    intro v2 wz hown2 hgrow2 hnil2
                    have NZ := Lib.hid (NB3.out.grown hgrow2 NB3.out.size (fun j hj => (World.ownsRow.lt (O2.out.alloc (.cells #[.int .i64 w1, .string w2, .slice a6 NV.length c6] 59)) j hj).1))
                    have OZ := Lib.hid (own_one (rs := rs.take k) (r := ⟨w1, w2, .slice a6 NV.length c6, NV⟩) HLE.out (own_k HLK.out (O2.out.alloc (.cells #[.int .i64 w1, .string w2, .slice a6 NV.length c6] 59))) (fun r hr => (vold_all HVR.out HWX.out (HXW.out.trans (NB3.out.mono HX9.out))) r (List.mem_of_mem_take hr)) (vsafe_own (VOwn.on HVN.out NB3.out)) (by rw [HLK.out]; exact hown2) hgrow2)
                    have SZ := HAB9.out.on NZ.out
                    unfold AB at SZ
                    clear hown2 hgrow2 hnil2
                    refine hK.out _ _ SZ (fun hHeld => ?_)
                    clear hK K1
                    (try simp only [Act.put, List.setIfInBounds_toArray, List.set_cons_zero, List.set_cons_succ])
                    refine wpAnyH_take (i := 14) (oi := { dst := some 10, op := Op.assign (Operand.tmp 91), type := 22, pos := "ref.go:43", after := #[{ on := 13, ground := Ground.data }, { on := 13, ground := Ground.chain }, { on := 0, ground := Ground.phase }, { on := 1, ground := Ground.phase }, { on := 2, ground := Ground.phase }, { on := 3, ground := Ground.phase }, { on := 4, ground := Ground.phase }, { on := 5, ground := Ground.phase }, { on := 6, ground := Ground.phase }, { on := 7, ground := Ground.phase }, { on := 8, ground := Ground.phase }, { on := 9, ground := Ground.phase }, { on := 10, ground := Ground.phase }, { on := 11, ground := Ground.phase }, { on := 12, ground := Ground.phase }, { on := 13, ground := Ground.phase }], guard := none }) (v := ?_) rfl (by kernel_rfl) (by kernel_rfl) (by kernel_rfl) (fun _ _ _ h => h) (Or.inl ⟨by rfl, ?_⟩) hHeld ?_
                    rotate_left
                    · intro w hSw
                      (try dsimp only at hSw)
                      go_simp
                      (try with_reducible rfl)
                    (try simp only [Act.put, List.setIfInBounds_toArray, List.set_cons_zero, List.set_cons_succ])
                    refine wpAnyH_done (by kernel_rfl) ?_ _
                    clear hHeld SZ
                    obtain ⟨rz, ho3, hm3, hs3⟩ := OZ.out
                    rw [HTK.out] at hm3
                    have HO3 := Lib.hid ho3
                    have HM3 := Lib.hid hm3
                    have HS3 := Lib.hid hs3
                    have hzl : rz.length = k + 1 := by
                      have e1 := congrArg List.length hm3
                      rw [List.length_map, List.length_append, List.length_take] at e1
                      simp at e1
                      omega
                    have HZL := Lib.hid hzl
                    clear ho3 hm3 hs3 hzl OZ
                    have hrr := HTL.out.2 _ NZ.out
                    go_wp2_with (first | (at_builtin; refine wpList_append_any rfl _ _ 22 rfl w9.heap.size 59 j0 (.agg #[.int .i64 0, .string ⟨#[]⟩, .slice none 0 0]) 3 48 Try.underlying22 HI.out.1 HI.out.2.1 HI.out.2.2.1 HI.out.2.2.2 rfl (by decide) _ _ _ rfl HO3.out (some (⟨b, o + k * 3, none⟩ : Addr)) (m) (c - k) (flatG rawC (rs.drop k)) rfl (by rw [flatG_len rawC_len]; exact congrArg (· * 3) HRL.out) HTL.out.1 hrr HOT.out (by have := HZL.out; unfold maxLen; omega) (by have := HZL.out; omega) NZ.out.size ?_; intro v4 w4 hown4 hgrow4 hnil4; have O4 := Lib.hid (own_mores (ms := rs.drop k) HRL.out HLE.out HO3.out HS3.out (fun r hr => (vold_all HVR.out HWX.out (HXW.out.trans (NZ.out.mono HX9.out))) r (List.mem_of_mem_drop hr)) hown4 hgrow4); have N4 := Lib.hid (NZ.out.grown hgrow4 NZ.out.size (fun j hj => (World.ownsRow.lt HO3.out j hj).1)); have hro := O4.out.row; have RB4 := rb_keep RB9.out HRB9.out N4.out; have RC4 : w4.cell? ⟨rb, 0, none⟩ = some (.slice none 0 0) := (by simp [World.cell?, RB4]); have RF4 : w4.frozen? ⟨rb, 0, none⟩ = false := (by simp [World.frozen?, RB4]); have HS4 := Lib.hid (fun u => OwnS.set O4.out HXR.out HRB9.out RB4 u); obtain ⟨a4, c4, hv4, -, -⟩ := hro.at; obtain ⟨n4, hn4⟩ : ∃ n4, (List.map abs rz ++ List.map abs (rs.drop k)).length = n4 := ⟨_, rfl⟩; rw [hn4] at hv4; clear hn4; subst hv4; clear hown4 hgrow4 hnil4 hro RB4))
                    have DD := Lib.hid ((HXW.out.trans (N4.out.mono HX9.out)).setCell (p := ⟨rb, 0, none⟩) HXR.out (.slice a4 n4 c4))
                    have HRow := HS4.out (.slice a4 n4 c4)
                    rw [HM3.out, HTD.out] at HRow
                    have HRow := Lib.hid HRow
                    have e1 := HWX.out
                    subst e1
                    exact bodyPost_ret (v := .tuple #[.agg #[.slice a4 n4 c4], .int .i64 0]) (by simp [results, Try.results12, go_sem, RC4]) rfl ⟨⟨.slice a4 n4 c4, by rw [HE.out], by rw [HE.out]; exact HRow.out⟩, DD.out⟩
                  · refine AllReadyH.cons (o := { dst := some 90, op := Op.buildSlice 22 1 #[(0, Operand.tmp 89)], type := 22, pos := "ref.go:43", after := #[{ on := 11, ground := Ground.data }], guard := none }) rfl (fun K1 hK => ?_) AllReadyH.nil
                    go_simp
                    have NB2 : Hid (Below w9.heap.size w9 ((w9.drew.alloc (.cells #[] 59)).alloc (.cells #[.int .i64 w1, .string w2, .slice a6 NV.length c6] 59))) := NB1.out.alloc NB1.out.size _
                    have S2 := HAB9.out.on NB2.out
                    unfold AB at S2
                    refine hK.out _ _ S2 (fun hHeld => ?_)
                    clear hK K1 S2
                    (try simp only [Act.put, List.setIfInBounds_toArray, List.set_cons_zero, List.set_cons_succ])
                    refine wpAnyH_ready (rs := [5]) (by kernel_rfl) (by simp) ?_
                    refine AllReadyH.cons (o := { dst := some 83, op := Op.call { callee := Callee.builtin Builtin.append, args := #[Operand.tmp 78, Operand.tmp 82], argTypes := #[22, 22] }, type := 22, pos := "ref.go:43", after := #[{ on := 0, ground := Ground.data }, { on := 4, ground := Ground.data }], guard := none }) rfl (fun K1 hK => ?_) AllReadyH.nil
                    refine step_append_any ((w9.drew.alloc (.cells #[] 59)).alloc (.cells #[.int .i64 w1, .string w2, .slice a6 NV.length c6] 59)) (by rfl) _ _ _ (by rfl) w9.heap.size 59 j0 _ 3 48 Try.underlying22 HI.out.1 HI.out.2.1 HI.out.2.2.1 HI.out.2.2.2 rfl (by omega) (.slice (some ⟨w9.heap.size, 0, none⟩) 0 0) 0 [] (by rfl) (O1.out.alloc (.cells #[.int .i64 w1, .string w2, .slice a6 NV.length c6] 59)) (some (⟨b, o, none⟩ : Addr)) k c (flatG rawC (rs.take k)) (by rfl) (by rw [flatG_len rawC_len, HLK.out]) HHD.out.1 (HHD.out.2 _ NB2.out) HO1.out.1 (by unfold maxLen; omega) (by omega) NB2.out.size ?_
                    intro v1 u3 hown1 hgrow1 hnil1
                    have O3 : Hid (u3.ownsRow w9.heap.size 59 3 v1 k (flatG rawC (rs.take k))) := by show World.ownsRow _ _ _ _ _ _ _; simpa using hown1
                    have NB3 := Lib.hid (NB2.out.grown hgrow1 NB2.out.size (fun j hj => ((O1.out.alloc (.cells #[.int .i64 w1, .string w2, .slice a6 NV.length c6] 59))).lt j hj |>.1))
                    have G3 := Lib.hid hgrow1
                    have S3 := HAB9.out.on NB3.out
                    unfold AB at S3
                    clear hown1 hgrow1 hnil1
                    refine hK.out _ _ S3 (fun hHeld => ?_)
                    clear hK K1 S3
                    (try simp only [Act.put, List.setIfInBounds_toArray, List.set_cons_zero, List.set_cons_succ])
                    refine wpAnyH_ready (rs := [13]) (by kernel_rfl) (by simp) ?_
                    refine AllReadyH.cons (o := { dst := some 91, op := Op.call { callee := Callee.builtin Builtin.append, args := #[Operand.tmp 83, Operand.tmp 90], argTypes := #[22, 22] }, type := 22, pos := "ref.go:43", after := #[{ on := 5, ground := Ground.data }, { on := 12, ground := Ground.data }, { on := 5, ground := Ground.chain }], guard := none }) rfl (fun K1 hK => ?_) AllReadyH.nil
                    refine step_append_own u3 (by rfl) _ _ _ (by rfl) w9.heap.size 59 j0 _ 3 48 Try.underlying22 HI.out.1 HI.out.2.1 HI.out.2.2.1 HI.out.2.2.2 rfl (by omega) v1 k (flatG rawC (rs.take k)) (by rfl) O3.out ⟨(w9.heap.size + 1), 0, none⟩ 1 1 (rawC ⟨w1, w2, .slice a6 NV.length c6, NV⟩) (by rfl) (by rfl) (ent_grown (newE (w9.drew.alloc (.cells #[] 59)) w1 w2 (.slice a6 NV.length c6)) (by simp) G3.out (by simp [Value.ownBlock])) HO1.out.2 (by unfold maxLen; omega) (by omega) NB3.out.size ?_
                    intro v2 wz hown2 hgrow2 hnil2
                    have NZ := Lib.hid (NB3.out.grown hgrow2 NB3.out.size (fun j hj => (World.ownsRow.lt O3.out j hj).1))
                    have OZ := Lib.hid (own_one (rs := rs.take k) (r := ⟨w1, w2, .slice a6 NV.length c6, NV⟩) HLE.out (own_k HLK.out O3.out) (fun r hr => (vold_all HVR.out HWX.out (HXW.out.trans (NB3.out.mono HX9.out))) r (List.mem_of_mem_take hr)) (vsafe_own (VOwn.on HVN.out NB3.out)) (by rw [HLK.out]; exact hown2) hgrow2)
                    have SZ := HAB9.out.on NZ.out
                    unfold AB at SZ
                    clear hown2 hgrow2 hnil2
                    refine hK.out _ _ SZ (fun hHeld => ?_)
                    clear hK K1
                    (try simp only [Act.put, List.setIfInBounds_toArray, List.set_cons_zero, List.set_cons_succ])
                    refine wpAnyH_take (i := 14) (oi := { dst := some 10, op := Op.assign (Operand.tmp 91), type := 22, pos := "ref.go:43", after := #[{ on := 13, ground := Ground.data }, { on := 13, ground := Ground.chain }, { on := 0, ground := Ground.phase }, { on := 1, ground := Ground.phase }, { on := 2, ground := Ground.phase }, { on := 3, ground := Ground.phase }, { on := 4, ground := Ground.phase }, { on := 5, ground := Ground.phase }, { on := 6, ground := Ground.phase }, { on := 7, ground := Ground.phase }, { on := 8, ground := Ground.phase }, { on := 9, ground := Ground.phase }, { on := 10, ground := Ground.phase }, { on := 11, ground := Ground.phase }, { on := 12, ground := Ground.phase }, { on := 13, ground := Ground.phase }], guard := none }) (v := ?_) rfl (by kernel_rfl) (by kernel_rfl) (by kernel_rfl) (fun _ _ _ h => h) (Or.inl ⟨by rfl, ?_⟩) hHeld ?_
                    rotate_left
                    · intro w hSw
                      (try dsimp only at hSw)
                      go_simp
                      (try with_reducible rfl)
                    (try simp only [Act.put, List.setIfInBounds_toArray, List.set_cons_zero, List.set_cons_succ])
                    refine wpAnyH_done (by kernel_rfl) ?_ _
                    clear hHeld SZ
                    obtain ⟨rz, ho3, hm3, hs3⟩ := OZ.out
                    rw [HTK.out] at hm3
                    have HO3 := Lib.hid ho3
                    have HM3 := Lib.hid hm3
                    have HS3 := Lib.hid hs3
                    have hzl : rz.length = k + 1 := by
                      have e1 := congrArg List.length hm3
                      rw [List.length_map, List.length_append, List.length_take] at e1
                      simp at e1
                      omega
                    have HZL := Lib.hid hzl
                    clear ho3 hm3 hs3 hzl OZ
                    have hrr := HTL.out.2 _ NZ.out
                    go_wp2_with (first | (at_builtin; refine wpList_append_any rfl _ _ 22 rfl w9.heap.size 59 j0 (.agg #[.int .i64 0, .string ⟨#[]⟩, .slice none 0 0]) 3 48 Try.underlying22 HI.out.1 HI.out.2.1 HI.out.2.2.1 HI.out.2.2.2 rfl (by decide) _ _ _ rfl HO3.out (some (⟨b, o + k * 3, none⟩ : Addr)) (m) (c - k) (flatG rawC (rs.drop k)) rfl (by rw [flatG_len rawC_len]; exact congrArg (· * 3) HRL.out) HTL.out.1 hrr HOT.out (by have := HZL.out; unfold maxLen; omega) (by have := HZL.out; omega) NZ.out.size ?_; intro v4 w4 hown4 hgrow4 hnil4; have O4 := Lib.hid (own_mores (ms := rs.drop k) HRL.out HLE.out HO3.out HS3.out (fun r hr => (vold_all HVR.out HWX.out (HXW.out.trans (NZ.out.mono HX9.out))) r (List.mem_of_mem_drop hr)) hown4 hgrow4); have N4 := Lib.hid (NZ.out.grown hgrow4 NZ.out.size (fun j hj => (World.ownsRow.lt HO3.out j hj).1)); have hro := O4.out.row; have RB4 := rb_keep RB9.out HRB9.out N4.out; have RC4 : w4.cell? ⟨rb, 0, none⟩ = some (.slice none 0 0) := (by simp [World.cell?, RB4]); have RF4 : w4.frozen? ⟨rb, 0, none⟩ = false := (by simp [World.frozen?, RB4]); have HS4 := Lib.hid (fun u => OwnS.set O4.out HXR.out HRB9.out RB4 u); obtain ⟨a4, c4, hv4, -, -⟩ := hro.at; obtain ⟨n4, hn4⟩ : ∃ n4, (List.map abs rz ++ List.map abs (rs.drop k)).length = n4 := ⟨_, rfl⟩; rw [hn4] at hv4; clear hn4; subst hv4; clear hown4 hgrow4 hnil4 hro RB4))
                    have DD := Lib.hid ((HXW.out.trans (N4.out.mono HX9.out)).setCell (p := ⟨rb, 0, none⟩) HXR.out (.slice a4 n4 c4))
                    have HRow := HS4.out (.slice a4 n4 c4)
                    rw [HM3.out, HTD.out] at HRow
                    have HRow := Lib.hid HRow
                    have e1 := HWX.out
                    subst e1
                    exact bodyPost_ret (v := .tuple #[.agg #[.slice a4 n4 c4], .int .i64 0]) (by simp [results, Try.results12, go_sem, RC4]) rfl ⟨⟨.slice a4 n4 c4, by rw [HE.out], by rw [HE.out]; exact HRow.out⟩, DD.out⟩
                · refine AllReadyH.cons (o := { dst := some 90, op := Op.buildSlice 22 1 #[(0, Operand.tmp 89)], type := 22, pos := "ref.go:43", after := #[{ on := 11, ground := Ground.data }], guard := none }) rfl (fun K1 hK => ?_) AllReadyH.nil
                  go_simp
                  have NB1 : Hid (Below w9.heap.size w9 (w9.drew.alloc (.cells #[.int .i64 w1, .string w2, .slice a6 NV.length c6] 59))) := NB0.out.alloc NB0.out.size _
                  have S1 := HAB9.out.on NB1.out
                  unfold AB at S1
                  refine hK.out _ _ S1 (fun hHeld => ?_)
                  clear hK K1 S1
                  (try simp only [Act.put, List.setIfInBounds_toArray, List.set_cons_zero, List.set_cons_succ])
                  refine wpAnyH_ready (rs := [0]) (by kernel_rfl) (by simp) ?_
                  refine AllReadyH.cons (o := { dst := some 78, op := Op.buildSlice 22 0 #[], type := 22, pos := "ref.go:43", after := #[], guard := none }) rfl (fun K1 hK => ?_) AllReadyH.nil
                  go_simp
                  have NB2 : Hid (Below w9.heap.size w9 ((w9.drew.alloc (.cells #[.int .i64 w1, .string w2, .slice a6 NV.length c6] 59)).alloc (.cells #[] 59))) := NB1.out.alloc NB1.out.size _
                  have O2 := Lib.hid (World.ownsRow_made (base := w9.heap.size) (e := 59) (size := 3) (w9.drew.alloc (.cells #[.int .i64 w1, .string w2, .slice a6 NV.length c6] 59)) #[] 0 NB1.out.size (Nat.zero_le _) (by simp))
                  have hzE : (w9.drew.alloc (.cells #[.int .i64 w1, .string w2, .slice a6 NV.length c6] 59)).heap.size = w9.heap.size + 1 := by simp
                  rw [hzE] at O2
                  clear hzE
                  have S2 := HAB9.out.on NB2.out
                  unfold AB at S2
                  refine hK.out _ _ S2 (fun hHeld => ?_)
                  clear hK K1 S2
                  (try simp only [Act.put, List.setIfInBounds_toArray, List.set_cons_zero, List.set_cons_succ])
                  refine wpAnyH_ready (rs := [5]) (by kernel_rfl) (by simp) ?_
                  refine AllReadyH.cons (o := { dst := some 83, op := Op.call { callee := Callee.builtin Builtin.append, args := #[Operand.tmp 78, Operand.tmp 82], argTypes := #[22, 22] }, type := 22, pos := "ref.go:43", after := #[{ on := 0, ground := Ground.data }, { on := 4, ground := Ground.data }], guard := none }) rfl (fun K1 hK => ?_) AllReadyH.nil
                  refine step_append_any ((w9.drew.alloc (.cells #[.int .i64 w1, .string w2, .slice a6 NV.length c6] 59)).alloc (.cells #[] 59)) (by rfl) _ _ _ (by rfl) w9.heap.size 59 j0 _ 3 48 Try.underlying22 HI.out.1 HI.out.2.1 HI.out.2.2.1 HI.out.2.2.2 rfl (by omega) (.slice (some ⟨(w9.heap.size + 1), 0, none⟩) 0 0) 0 [] (by rfl) O2.out (some (⟨b, o, none⟩ : Addr)) k c (flatG rawC (rs.take k)) (by rfl) (by rw [flatG_len rawC_len, HLK.out]) HHD.out.1 (HHD.out.2 _ NB2.out) HO1.out.1 (by unfold maxLen; omega) (by omega) NB2.out.size ?_
                  intro v1 u3 hown1 hgrow1 hnil1
                  have O3 : Hid (u3.ownsRow w9.heap.size 59 3 v1 k (flatG rawC (rs.take k))) := by show World.ownsRow _ _ _ _ _ _ _; simpa using hown1
                  have NB3 := Lib.hid (NB2.out.grown hgrow1 NB2.out.size (fun j hj => (O2.out).lt j hj |>.1))
                  have G3 := Lib.hid hgrow1
                  have S3 := HAB9.out.on NB3.out
                  unfold AB at S3
                  clear hown1 hgrow1 hnil1
                  refine hK.out _ _ S3 (fun hHeld => ?_)
                  clear hK K1 S3
                  (try simp only [Act.put, List.setIfInBounds_toArray, List.set_cons_zero, List.set_cons_succ])
                  refine wpAnyH_ready (rs := [13]) (by kernel_rfl) (by simp) ?_
                  refine AllReadyH.cons (o := { dst := some 91, op := Op.call { callee := Callee.builtin Builtin.append, args := #[Operand.tmp 83, Operand.tmp 90], argTypes := #[22, 22] }, type := 22, pos := "ref.go:43", after := #[{ on := 5, ground := Ground.data }, { on := 12, ground := Ground.data }, { on := 5, ground := Ground.chain }], guard := none }) rfl (fun K1 hK => ?_) AllReadyH.nil
                  refine step_append_own u3 (by rfl) _ _ _ (by rfl) w9.heap.size 59 j0 _ 3 48 Try.underlying22 HI.out.1 HI.out.2.1 HI.out.2.2.1 HI.out.2.2.2 rfl (by omega) v1 k (flatG rawC (rs.take k)) (by rfl) O3.out ⟨w9.heap.size, 0, none⟩ 1 1 (rawC ⟨w1, w2, .slice a6 NV.length c6, NV⟩) (by rfl) (by rfl) (ent_grown (ent_alloc (newE w9.drew w1 w2 (.slice a6 NV.length c6)) (.cells #[] 59)) rfl G3.out (by simp [Value.ownBlock])) HO1.out.2 (by unfold maxLen; omega) (by omega) NB3.out.size ?_
                  intro v2 wz hown2 hgrow2 hnil2
                  have NZ := Lib.hid (NB3.out.grown hgrow2 NB3.out.size (fun j hj => (World.ownsRow.lt O3.out j hj).1))
                  have OZ := Lib.hid (own_one (rs := rs.take k) (r := ⟨w1, w2, .slice a6 NV.length c6, NV⟩) HLE.out (own_k HLK.out O3.out) (fun r hr => (vold_all HVR.out HWX.out (HXW.out.trans (NB3.out.mono HX9.out))) r (List.mem_of_mem_take hr)) (vsafe_own (VOwn.on HVN.out NB3.out)) (by rw [HLK.out]; exact hown2) hgrow2)
                  have SZ := HAB9.out.on NZ.out
                  unfold AB at SZ
                  clear hown2 hgrow2 hnil2
                  refine hK.out _ _ SZ (fun hHeld => ?_)
                  clear hK K1
                  (try simp only [Act.put, List.setIfInBounds_toArray, List.set_cons_zero, List.set_cons_succ])
                  refine wpAnyH_take (i := 14) (oi := { dst := some 10, op := Op.assign (Operand.tmp 91), type := 22, pos := "ref.go:43", after := #[{ on := 13, ground := Ground.data }, { on := 13, ground := Ground.chain }, { on := 0, ground := Ground.phase }, { on := 1, ground := Ground.phase }, { on := 2, ground := Ground.phase }, { on := 3, ground := Ground.phase }, { on := 4, ground := Ground.phase }, { on := 5, ground := Ground.phase }, { on := 6, ground := Ground.phase }, { on := 7, ground := Ground.phase }, { on := 8, ground := Ground.phase }, { on := 9, ground := Ground.phase }, { on := 10, ground := Ground.phase }, { on := 11, ground := Ground.phase }, { on := 12, ground := Ground.phase }, { on := 13, ground := Ground.phase }], guard := none }) (v := ?_) rfl (by kernel_rfl) (by kernel_rfl) (by kernel_rfl) (fun _ _ _ h => h) (Or.inl ⟨by rfl, ?_⟩) hHeld ?_
                  rotate_left
                  · intro w hSw
                    (try dsimp only at hSw)
                    go_simp
                    (try with_reducible rfl)
                  (try simp only [Act.put, List.setIfInBounds_toArray, List.set_cons_zero, List.set_cons_succ])
                  refine wpAnyH_done (by kernel_rfl) ?_ _
                  clear hHeld SZ
                  obtain ⟨rz, ho3, hm3, hs3⟩ := OZ.out
                  rw [HTK.out] at hm3
                  have HO3 := Lib.hid ho3
                  have HM3 := Lib.hid hm3
                  have HS3 := Lib.hid hs3
                  have hzl : rz.length = k + 1 := by
                    have e1 := congrArg List.length hm3
                    rw [List.length_map, List.length_append, List.length_take] at e1
                    simp at e1
                    omega
                  have HZL := Lib.hid hzl
                  clear ho3 hm3 hs3 hzl OZ
                  have hrr := HTL.out.2 _ NZ.out
                  go_wp2_with (first | (at_builtin; refine wpList_append_any rfl _ _ 22 rfl w9.heap.size 59 j0 (.agg #[.int .i64 0, .string ⟨#[]⟩, .slice none 0 0]) 3 48 Try.underlying22 HI.out.1 HI.out.2.1 HI.out.2.2.1 HI.out.2.2.2 rfl (by decide) _ _ _ rfl HO3.out (some (⟨b, o + k * 3, none⟩ : Addr)) (m) (c - k) (flatG rawC (rs.drop k)) rfl (by rw [flatG_len rawC_len]; exact congrArg (· * 3) HRL.out) HTL.out.1 hrr HOT.out (by have := HZL.out; unfold maxLen; omega) (by have := HZL.out; omega) NZ.out.size ?_; intro v4 w4 hown4 hgrow4 hnil4; have O4 := Lib.hid (own_mores (ms := rs.drop k) HRL.out HLE.out HO3.out HS3.out (fun r hr => (vold_all HVR.out HWX.out (HXW.out.trans (NZ.out.mono HX9.out))) r (List.mem_of_mem_drop hr)) hown4 hgrow4); have N4 := Lib.hid (NZ.out.grown hgrow4 NZ.out.size (fun j hj => (World.ownsRow.lt HO3.out j hj).1)); have hro := O4.out.row; have RB4 := rb_keep RB9.out HRB9.out N4.out; have RC4 : w4.cell? ⟨rb, 0, none⟩ = some (.slice none 0 0) := (by simp [World.cell?, RB4]); have RF4 : w4.frozen? ⟨rb, 0, none⟩ = false := (by simp [World.frozen?, RB4]); have HS4 := Lib.hid (fun u => OwnS.set O4.out HXR.out HRB9.out RB4 u); obtain ⟨a4, c4, hv4, -, -⟩ := hro.at; obtain ⟨n4, hn4⟩ : ∃ n4, (List.map abs rz ++ List.map abs (rs.drop k)).length = n4 := ⟨_, rfl⟩; rw [hn4] at hv4; clear hn4; subst hv4; clear hown4 hgrow4 hnil4 hro RB4))
                  have DD := Lib.hid ((HXW.out.trans (N4.out.mono HX9.out)).setCell (p := ⟨rb, 0, none⟩) HXR.out (.slice a4 n4 c4))
                  have HRow := HS4.out (.slice a4 n4 c4)
                  rw [HM3.out, HTD.out] at HRow
                  have HRow := Lib.hid HRow
                  have e1 := HWX.out
                  subst e1
                  exact bodyPost_ret (v := .tuple #[.agg #[.slice a4 n4 c4], .int .i64 0]) (by simp [results, Try.results12, go_sem, RC4]) rfl ⟨⟨.slice a4 n4 c4, by rw [HE.out], by rw [HE.out]; exact HRow.out⟩, DD.out⟩
            · have hh0 : hitE w1 w2 ⟨p0, p1, p2⟩ = true := by unfold hitE; rw [decide_eq_true c1, ← beq_ba, c2]; rfl
              have HOLD : Hid (oldV w1 w2 (l.drop k) = p2) := by show _ = _; rw [HDK.out]; show (if hitE w1 w2 ⟨p0, p1, p2⟩ = true then _ else _) = _; rw [hh0]; rfl
              have HOLN : Hid (oldN w1 w2 (l.drop k) = 1) := by show _ = _; rw [HDK.out]; show (if hitE w1 w2 ⟨p0, p1, p2⟩ = true then _ else _) = _; rw [hh0]; rfl
              have HP2 : Hid (⟨p0, p1, p2⟩ ∈ l) := (congrArg (fun z => z ∈ l) HX.out).mp (List.getElem_mem HK.out)
              have hcut1 := cutS_one (some ⟨b, o + k * 3, none⟩) (c - k) m (by omega)
              obtain ⟨a3, ha3⟩ : ∃ a3, (if c - k = 1 then (some ⟨b, o + k * 3, none⟩ : Option Addr) else (some ⟨b, o + k * 3, none⟩ : Option Addr).map (·.add 3)) = a3 := ⟨_, rfl⟩
              rw [ha3] at hcut1
              have HR3 : Hid (∀ W, Below xb w W → GRow rawC 3 W (.slice a3 (m - 1) (c - k - 1)) (rs.drop (k + 1))) := fun W d => by
                have q0 := HR0.out W d
                rw [← HRLD.out] at q0
                have q1 := grow_tail q0 1
                rw [HRLD.out, List.drop_drop] at q1
                rw [← ha3]
                exact q1
              have HRL3 : Hid ((rs.drop (k + 1)).length = m - 1) := by show _ = _; rw [List.length_drop, HRSL.out]; have := HM.out; omega
              have HCU1 := Lib.hid hcut1
              have i4 : (0 : Int) < (m : Int) := i3
              clear hh0 c1 ha3 hcut1
              go_quiet (fail)
              generalize nq = nq1
              go_wp2_with fail
              have hcu1 := HCU1.out
              go_quiet (fail)
              clear hcu1
              have NT : Hid (Below wc.heap.size wc ((w5.drewN nq1).drewN nq)) := below_drewN (below_drewN DR.out nq1) nq
              have NR : Hid (Below wr.heap.size wr ((w5.drewN nq1).drewN nq)) := below_drewN (below_drewN D5.out nq1) nq
              clear b0 y0 y1 y2 y3 e1 e2 e3
              generalize (w5.drewN nq1).drewN nq = wt at *
              have HABt := Lib.hid (HAB.out.on NT.out)
              have HXT := Lib.hid (d0.out.trans ((DC.out.trans (NT.out.mono DC.out.size)).mono HXA.out))
              have HRR := Lib.hid (HR3.out wt HXT.out)
              have HRL := HRL3
              have HOL : Hid (p2.length ≤ 999) := Nat.le_trans (HV.out _ HP2.out) (by omega)
              have HOK := Lib.hid (HVO.out _ HP2.out)
              have HRP := Lib.hid (HR1.out.on NR.out)
              have HDT := Lib.hid (DC.out.trans (NT.out.mono DC.out.size))
              have HFC := refFoldV_any (.slice sa p2.length sc) (p2) w0 w3 wt HRP.out HOL.out HOK.out hx
              have HTL : Hid ((a3 = none → (m - 1) = 0) ∧ ∀ W, Below wt.heap.size wt W → ∀ p, a3 = some p → ∀ j u, (flatG rawC (rs.drop (k + 1)))[j]? = some u → W.cell? (p.add j) = some u) := by
                obtain ⟨q1, q2, q3, _, q4⟩ := HRR.out
                injection q3 with z1 z2 z3
                subst z1
                exact ⟨fun h => by have := gat_none q4 h; omega, fun W d => gat_news rawC_len (by decide) (q4.on d)⟩
              have HHD : Hid (((some (⟨b, o, none⟩ : Addr)) = none → k = 0) ∧ ∀ W, Below wt.heap.size wt W → ∀ p, (some (⟨b, o, none⟩ : Addr)) = some p → ∀ j u, (flatG rawC (rs.take k))[j]? = some u → W.cell? (p.add j) = some u) := by
                have q0 := HG.out.on (show Below w.heap.size w wt by rw [HXB.out.1]; exact d0.out.trans (HDT.out.mono HXA.out))
                obtain ⟨q1, q2, q3, q5, q4⟩ := q0
                injection q3 with z1 z2 z3
                subst z1
                have q6 := gat_head q4 k
                exact ⟨fun h => by have := gat_none q6 h; rw [HLK.out] at this; exact this, fun W d => gat_news rawC_len (by decide) (q6.on d)⟩
              have HTK : Hid ((rs.take k).map abs = l.take k) := (map_take_drop HMP.out k).1
              have HTD : Hid (List.map abs (rs.drop (k + 1)) = l.drop (k + 1)) := (map_take_drop HMP.out (k + 1)).2
              have HVR := Lib.hid HVR0.out
              have HOT := Lib.hid (raws_one (w := w) (rs := rs.drop (k + 1)) (fun r hr => HVR.out r (List.mem_of_mem_drop hr)))
              obtain ⟨NV, hNV⟩ : ∃ NV, (p2) ++ [⟨w0, fold (lastC (p2)) w3⟩] = NV := ⟨_, rfl⟩
              have HLN : Hid (NV.length = (p2).length + 1) := by show _ = _; rw [← hNV]; simp
              cases hvr : vright NV
              · have hf : foldV (p2) w0 w3 = ([], 9) := putV_no (by rw [hNV]; exact hvr)
                have HE : Hid (applyS l ⟨w0, w1, w2, w3⟩ = ([], 9)) := applyS_bad HSRT.out HAN.out HOLD.out hf
                rw [hf] at HFC
                have HFC := Lib.hid HFC
                obtain ⟨b0, y0, y1, y2, y3⟩ := HABt.out
                clear hf hvr hNV
                go_wp2_with fail
                refine (HFC.out).mono ?_
                rintro e w8 ⟨⟨v8, rfl, hv8⟩, n8⟩
                have N8 := Lib.hid (HDT.out.trans (n8.mono HDT.out.size))
                have RB8 := rb_keep RB.out.1 RB.out.2 N8.out
                have RC8 : w8.cell? ⟨rb, 0, none⟩ = some (.slice none 0 0) := by simp [World.cell?, RB8]
                have RF8 : w8.frozen? ⟨rb, 0, none⟩ = false := by simp [World.frozen?, RB8]
                obtain ⟨a8, c8, rfl, -, -⟩ := hv8.row
                have DD := Lib.hid (((d0.out).trans (N8.out.mono HXA.out)).setCell (p := ⟨rb, 0, none⟩) HXR.out (.slice none 0 0))
                clear n8 hv8 RB8
                go_wp2_with fail
                have e1 := HXB.out.1
                subst e1
                exact bodyPost_ret (v := .tuple #[.agg #[.slice none 0 0], .int .i64 9]) (by simp [results, Try.results12, go_sem, RC8]) rfl ⟨⟨.slice none 0 0, by rw [HE.out], by rw [HE.out]; exact SRow.nil _⟩, DD.out⟩
              · have hf : foldV (p2) w0 w3 = (NV, 0) := by rw [← hNV]; exact putV_ok (by rw [hNV]; exact hvr)
                have HE : Hid (applyS l ⟨w0, w1, w2, w3⟩ = (l.take k ++ [⟨w1, w2, NV⟩] ++ l.drop (k + 1), 0)) := applyS_ok HSRT.out HAN.out HOLD.out HOLN.out hf
                rw [hf] at HFC
                have HFC := Lib.hid HFC
                obtain ⟨b0, y0, y1, y2, y3⟩ := HABt.out
                clear hf hvr hNV
                go_wp2_with fail
                refine (HFC.out).mono ?_
                rintro e w9 ⟨⟨v6, rfl, hv6⟩, n9⟩
                have N9 := Lib.hid (HDT.out.trans (n9.mono HDT.out.size))
                have HVN0 := Lib.hid hv6
                obtain ⟨a6, c6, rfl, -, -⟩ := hv6.row
                have HAB9 := Lib.hid (HABt.out.on n9)
                have RB9 := Lib.hid (rb_keep RB.out.1 RB.out.2 N9.out)
                have HRB9 := Lib.hid (Nat.lt_of_lt_of_le RB.out.2 N9.out.size)
                have HXW := Lib.hid (d0.out.trans (N9.out.mono HXA.out))
                have HX9 : Hid (xb ≤ w9.heap.size) := by show _ ≤ _; have h1 := HXW.out.size; have h2 := HXB.out.1; omega
                have HLE := HX9
                have HWX := Lib.hid HXB.out.1
                have HVN := HVN0
                have HTL2 := Lib.hid (And.intro HTL.out.1 (fun W (d : Below w9.heap.size w9 W) => HTL.out.2 W (n9.trans (d.mono n9.size))))
                have HHD2 := Lib.hid (And.intro HHD.out.1 (fun W (d : Below w9.heap.size w9 W) => HHD.out.2 W (n9.trans (d.mono n9.size))))
                have HO1 : Hid ((∀ u ∈ flatG rawC (rs.take k), u.oneCell' = true) ∧ ∀ x ∈ rawC ⟨w1, w2, .slice a6 NV.length c6, NV⟩, x.oneCell' = true) := ⟨raws_one (fun r hr => HVR.out r (List.mem_of_mem_take hr)), rawC_one ⟨w1, w2, .slice a6 NV.length c6, NV⟩ hv6.row⟩
                clear HTL HHD hv6 HVN0 HDT HFC
                have HTL := HTL2
                have HHD := HHD2
                clear HTL2 HHD2 n9 b0 y0 y1 y2 y3
                obtain ⟨b0, y0, y1, y2, y3⟩ := HAB9.out
                go_wp2_with fail
                clear b0 y0 y1 y2 y3
                have hS : AB xb wb (.slice (some (⟨b, o, none⟩ : Addr)) l.length c) w0 w1 w2 w3 w9.drew := HAB9.out.on ((Below.refl _ _).drew)
                have HH := Lib.hid (cutS_head (some (⟨b, o, none⟩ : Addr)) c l.length k (by have := HC.out; omega))
                have NB0 : Hid (Below w9.heap.size w9 w9.drew) := (Below.refl _ _).drew
                unfold AB at hS
                have hh := HH.out
                refine wp_region_held_drew (S := fun w' => w'.cell? ⟨xb, 0, none⟩ = some (.slice (some (⟨b, o, none⟩ : Addr)) l.length c) ∧ w'.cell? ⟨wb, 0, none⟩ = some (.int .i64 w0) ∧ w'.cell? ⟨wb, 1, none⟩ = some (.int .i64 w1) ∧ w'.cell? ⟨wb, 2, none⟩ = some (.string w2) ∧ w'.cell? ⟨wb, 3, none⟩ = some (.int .i64 w3)) (by kernel_rfl) hS (fun hHeld => ?_)
                refine wpAnyH_take (i := 1) (oi := { dst := some 79, op := Op.fieldAddr 24 (Operand.tmp 2) 0, type := 0, pos := "ref.go:43", after := #[], guard := none }) (v := ?_) rfl (by kernel_rfl) (by kernel_rfl) (by kernel_rfl) (fun _ _ _ h => h) (Or.inl ⟨by rfl, ?_⟩) hHeld ?_
                rotate_left
                · intro w hSw
                  (try dsimp only at hSw)
                  go_simp
                  (try with_reducible rfl)
                (try simp only [Act.put, List.setIfInBounds_toArray, List.set_cons_zero, List.set_cons_succ])
                refine wpAnyH_take (i := 2) (oi := { dst := some 80, op := Op.load 22 (Operand.tmp 79), type := 22, pos := "ref.go:43", after := #[{ on := 1, ground := Ground.data }], guard := none }) (v := ?_) rfl (by kernel_rfl) (by kernel_rfl) (by kernel_rfl) (fun _ _ _ h => h) (Or.inl ⟨by rfl, ?_⟩) hHeld ?_
                rotate_left
                · intro w hSw
                  (try dsimp only at hSw)
                  go_simp
                  (try with_reducible rfl)
                (try simp only [Act.put, List.setIfInBounds_toArray, List.set_cons_zero, List.set_cons_succ])
                refine wpAnyH_take (i := 3) (oi := { dst := some 81, op := Op.move (Operand.tmp 6), type := 3, pos := "ref.go:43", after := #[], guard := none }) (v := ?_) rfl (by kernel_rfl) (by kernel_rfl) (by kernel_rfl) (fun _ _ _ h => h) (Or.inl ⟨by rfl, ?_⟩) hHeld ?_
                rotate_left
                · intro w hSw
                  (try dsimp only at hSw)
                  go_simp
                  (try with_reducible rfl)
                (try simp only [Act.put, List.setIfInBounds_toArray, List.set_cons_zero, List.set_cons_succ])
                refine wpAnyH_take (i := 4) (oi := { dst := some 82, op := Op.slice 22 (Operand.tmp 80) none (some (Operand.tmp 81)) none, type := 22, pos := "ref.go:43", after := #[{ on := 2, ground := Ground.data }, { on := 3, ground := Ground.data }], guard := none }) (v := ?_) rfl (by kernel_rfl) (by kernel_rfl) (by kernel_rfl) (fun _ _ _ h => h) (Or.inl ⟨by rfl, ?_⟩) hHeld ?_
                rotate_left
                · intro w hSw
                  (try dsimp only at hSw)
                  go_simp
                  (try with_reducible rfl)
                (try simp only [Act.put, List.setIfInBounds_toArray, List.set_cons_zero, List.set_cons_succ])
                refine wpAnyH_take (i := 6) (oi := { dst := some 84, op := Op.fieldAddr 26 (Operand.tmp 3) 1, type := 0, pos := "ref.go:43", after := #[], guard := none }) (v := ?_) rfl (by kernel_rfl) (by kernel_rfl) (by kernel_rfl) (fun _ _ _ h => h) (Or.inl ⟨by rfl, ?_⟩) hHeld ?_
                rotate_left
                · intro w hSw
                  (try dsimp only at hSw)
                  go_simp
                  (try with_reducible rfl)
                (try simp only [Act.put, List.setIfInBounds_toArray, List.set_cons_zero, List.set_cons_succ])
                refine wpAnyH_take (i := 7) (oi := { dst := some 85, op := Op.load 2 (Operand.tmp 84), type := 2, pos := "ref.go:43", after := #[{ on := 6, ground := Ground.data }], guard := none }) (v := ?_) rfl (by kernel_rfl) (by kernel_rfl) (by kernel_rfl) (fun _ _ _ h => h) (Or.inl ⟨by rfl, ?_⟩) hHeld ?_
                rotate_left
                · intro w hSw
                  (try dsimp only at hSw)
                  go_simp
                  (try with_reducible rfl)
                (try simp only [Act.put, List.setIfInBounds_toArray, List.set_cons_zero, List.set_cons_succ])
                refine wpAnyH_take (i := 8) (oi := { dst := some 86, op := Op.fieldAddr 26 (Operand.tmp 3) 2, type := 0, pos := "ref.go:43", after := #[], guard := none }) (v := ?_) rfl (by kernel_rfl) (by kernel_rfl) (by kernel_rfl) (fun _ _ _ h => h) (Or.inl ⟨by rfl, ?_⟩) hHeld ?_
                rotate_left
                · intro w hSw
                  (try dsimp only at hSw)
                  go_simp
                  (try with_reducible rfl)
                (try simp only [Act.put, List.setIfInBounds_toArray, List.set_cons_zero, List.set_cons_succ])
                refine wpAnyH_take (i := 9) (oi := { dst := some 87, op := Op.load 9 (Operand.tmp 86), type := 9, pos := "ref.go:43", after := #[{ on := 8, ground := Ground.data }], guard := none }) (v := ?_) rfl (by kernel_rfl) (by kernel_rfl) (by kernel_rfl) (fun _ _ _ h => h) (Or.inl ⟨by rfl, ?_⟩) hHeld ?_
                rotate_left
                · intro w hSw
                  (try dsimp only at hSw)
                  go_simp
                  (try with_reducible rfl)
                (try simp only [Act.put, List.setIfInBounds_toArray, List.set_cons_zero, List.set_cons_succ])
                refine wpAnyH_take (i := 10) (oi := { dst := some 88, op := Op.move (Operand.tmp 7), type := 57, pos := "ref.go:43", after := #[], guard := none }) (v := ?_) rfl (by kernel_rfl) (by kernel_rfl) (by kernel_rfl) (fun _ _ _ h => h) (Or.inl ⟨by rfl, ?_⟩) hHeld ?_
                rotate_left
                · intro w hSw
                  (try dsimp only at hSw)
                  go_simp
                  (try with_reducible rfl)
                (try simp only [Act.put, List.setIfInBounds_toArray, List.set_cons_zero, List.set_cons_succ])
                refine wpAnyH_take (i := 11) (oi := { dst := some 89, op := Op.build 59 #[(0, Operand.tmp 85), (1, Operand.tmp 87), (2, Operand.tmp 88)], type := 59, pos := "ref.go:43", after := #[{ on := 7, ground := Ground.data }, { on := 9, ground := Ground.data }, { on := 10, ground := Ground.data }], guard := none }) (v := ?_) rfl (by kernel_rfl) (by kernel_rfl) (by kernel_rfl) (fun _ _ _ h => h) (Or.inl ⟨by rfl, ?_⟩) hHeld ?_
                rotate_left
                · intro w hSw
                  (try dsimp only at hSw)
                  go_simp
                  (try with_reducible rfl)
                (try simp only [Act.put, List.setIfInBounds_toArray, List.set_cons_zero, List.set_cons_succ])
                clear hS hh
                refine wpAnyH_ready (rs := [0, 12]) (by kernel_rfl) (by simp) ?_
                refine AllReadyH.cons (o := { dst := some 78, op := Op.buildSlice 22 0 #[], type := 22, pos := "ref.go:43", after := #[], guard := none }) rfl (fun K1 hK => ?_) ?_
                · go_simp
                  have NB1 : Hid (Below w9.heap.size w9 (w9.drew.alloc (.cells #[] 59))) := NB0.out.alloc NB0.out.size _
                  have O1 := Lib.hid (World.ownsRow_made (base := w9.heap.size) (e := 59) (size := 3) w9.drew #[] 0 NB0.out.size (Nat.zero_le _) (by simp))
                  have S1 := HAB9.out.on NB1.out
                  unfold AB at S1
                  refine hK.out _ _ S1 (fun hHeld => ?_)
                  clear hK K1 S1
                  (try simp only [Act.put, List.setIfInBounds_toArray, List.set_cons_zero, List.set_cons_succ])
                  refine wpAnyH_ready (rs := [5, 12]) (by kernel_rfl) (by simp) ?_
                  refine AllReadyH.cons (o := { dst := some 83, op := Op.call { callee := Callee.builtin Builtin.append, args := #[Operand.tmp 78, Operand.tmp 82], argTypes := #[22, 22] }, type := 22, pos := "ref.go:43", after := #[{ on := 0, ground := Ground.data }, { on := 4, ground := Ground.data }], guard := none }) rfl (fun K1 hK => ?_) ?_
                  · refine step_append_any (w9.drew.alloc (.cells #[] 59)) (by rfl) _ _ _ (by rfl) w9.heap.size 59 j0 _ 3 48 Try.underlying22 HI.out.1 HI.out.2.1 HI.out.2.2.1 HI.out.2.2.2 rfl (by omega) (.slice (some ⟨w9.heap.size, 0, none⟩) 0 0) 0 [] (by rfl) O1.out (some (⟨b, o, none⟩ : Addr)) k c (flatG rawC (rs.take k)) (by rfl) (by rw [flatG_len rawC_len, HLK.out]) HHD.out.1 (HHD.out.2 _ NB1.out) HO1.out.1 (by unfold maxLen; omega) (by omega) NB1.out.size ?_
                    intro v1 u2 hown1 hgrow1 hnil1
                    have O2 : Hid (u2.ownsRow w9.heap.size 59 3 v1 k (flatG rawC (rs.take k))) := by show World.ownsRow _ _ _ _ _ _ _; simpa using hown1
                    have NB2 := Lib.hid (NB1.out.grown hgrow1 NB1.out.size (fun j hj => (O1.out).lt j hj |>.1))
                    have G2 := Lib.hid hgrow1
                    have S2 := HAB9.out.on NB2.out
                    unfold AB at S2
                    clear hown1 hgrow1 hnil1
                    refine hK.out _ _ S2 (fun hHeld => ?_)
                    clear hK K1 S2
                    (try simp only [Act.put, List.setIfInBounds_toArray, List.set_cons_zero, List.set_cons_succ])
                    refine wpAnyH_ready (rs := [12]) (by kernel_rfl) (by simp) ?_
                    refine AllReadyH.cons (o := { dst := some 90, op := Op.buildSlice 22 1 #[(0, Operand.tmp 89)], type := 22, pos := "ref.go:43", after := #[{ on := 11, ground := Ground.data }], guard := none }) rfl (fun K1 hK => ?_) AllReadyH.nil
                    go_simp
                    have NB3 : Hid (Below w9.heap.size w9 (u2.alloc (.cells #[.int .i64 w1, .string w2, .slice a6 NV.length c6] 59))) := NB2.out.alloc NB2.out.size _
                    have S3 := HAB9.out.on NB3.out
                    unfold AB at S3
                    refine hK.out _ _ S3 (fun hHeld => ?_)
                    clear hK K1 S3
                    (try simp only [Act.put, List.setIfInBounds_toArray, List.set_cons_zero, List.set_cons_succ])
                    refine wpAnyH_ready (rs := [13]) (by kernel_rfl) (by simp) ?_
                    refine AllReadyH.cons (o := { dst := some 91, op := Op.call { callee := Callee.builtin Builtin.append, args := #[Operand.tmp 83, Operand.tmp 90], argTypes := #[22, 22] }, type := 22, pos := "ref.go:43", after := #[{ on := 5, ground := Ground.data }, { on := 12, ground := Ground.data }, { on := 5, ground := Ground.chain }], guard := none }) rfl (fun K1 hK => ?_) AllReadyH.nil
                    refine step_append_own (u2.alloc (.cells #[.int .i64 w1, .string w2, .slice a6 NV.length c6] 59)) (by rfl) _ _ _ (by rfl) w9.heap.size 59 j0 _ 3 48 Try.underlying22 HI.out.1 HI.out.2.1 HI.out.2.2.1 HI.out.2.2.2 rfl (by omega) v1 k (flatG rawC (rs.take k)) (by rfl) (O2.out.alloc (.cells #[.int .i64 w1, .string w2, .slice a6 NV.length c6] 59)) ⟨u2.heap.size, 0, none⟩ 1 1 (rawC ⟨w1, w2, .slice a6 NV.length c6, NV⟩) (by rfl) (by rfl) (newE u2 w1 w2 (.slice a6 NV.length c6)) HO1.out.2 (by unfold maxLen; omega) (by omega) NB3.out.size ?_
                    intro v2 wz hown2 hgrow2 hnil2
                    have NZ := Lib.hid (NB3.out.grown hgrow2 NB3.out.size (fun j hj => (World.ownsRow.lt (O2.out.alloc (.cells #[.int .i64 w1, .string w2, .slice a6 NV.length c6] 59)) j hj).1))
                    have OZ := Lib.hid (own_one (rs := rs.take k) (r := ⟨w1, w2, .slice a6 NV.length c6, NV⟩) HLE.out (own_k HLK.out (O2.out.alloc (.cells #[.int .i64 w1, .string w2, .slice a6 NV.length c6] 59))) (fun r hr => (vold_all HVR.out HWX.out (HXW.out.trans (NB3.out.mono HX9.out))) r (List.mem_of_mem_take hr)) (vsafe_own (VOwn.on HVN.out NB3.out)) (by rw [HLK.out]; exact hown2) hgrow2)
                    have SZ := HAB9.out.on NZ.out
                    unfold AB at SZ
                    clear hown2 hgrow2 hnil2
                    refine hK.out _ _ SZ (fun hHeld => ?_)
                    clear hK K1
                    (try simp only [Act.put, List.setIfInBounds_toArray, List.set_cons_zero, List.set_cons_succ])
                    refine wpAnyH_take (i := 14) (oi := { dst := some 10, op := Op.assign (Operand.tmp 91), type := 22, pos := "ref.go:43", after := #[{ on := 13, ground := Ground.data }, { on := 13, ground := Ground.chain }, { on := 0, ground := Ground.phase }, { on := 1, ground := Ground.phase }, { on := 2, ground := Ground.phase }, { on := 3, ground := Ground.phase }, { on := 4, ground := Ground.phase }, { on := 5, ground := Ground.phase }, { on := 6, ground := Ground.phase }, { on := 7, ground := Ground.phase }, { on := 8, ground := Ground.phase }, { on := 9, ground := Ground.phase }, { on := 10, ground := Ground.phase }, { on := 11, ground := Ground.phase }, { on := 12, ground := Ground.phase }, { on := 13, ground := Ground.phase }], guard := none }) (v := ?_) rfl (by kernel_rfl) (by kernel_rfl) (by kernel_rfl) (fun _ _ _ h => h) (Or.inl ⟨by rfl, ?_⟩) hHeld ?_
                    rotate_left
                    · intro w hSw
                      (try dsimp only at hSw)
                      go_simp
                      (try with_reducible rfl)
                    (try simp only [Act.put, List.setIfInBounds_toArray, List.set_cons_zero, List.set_cons_succ])
                    refine wpAnyH_done (by kernel_rfl) ?_ _
                    clear hHeld SZ
                    obtain ⟨rz, ho3, hm3, hs3⟩ := OZ.out
                    rw [HTK.out] at hm3
                    have HO3 := Lib.hid ho3
                    have HM3 := Lib.hid hm3
                    have HS3 := Lib.hid hs3
                    have hzl : rz.length = k + 1 := by
                      have e1 := congrArg List.length hm3
                      rw [List.length_map, List.length_append, List.length_take] at e1
                      simp at e1
                      omega
                    have HZL := Lib.hid hzl
                    clear ho3 hm3 hs3 hzl OZ
                    have hrr := HTL.out.2 _ NZ.out
                    go_wp2_with (first | (at_builtin; refine wpList_append_any rfl _ _ 22 rfl w9.heap.size 59 j0 (.agg #[.int .i64 0, .string ⟨#[]⟩, .slice none 0 0]) 3 48 Try.underlying22 HI.out.1 HI.out.2.1 HI.out.2.2.1 HI.out.2.2.2 rfl (by decide) _ _ _ rfl HO3.out a3 (m - 1) (c - k - 1) (flatG rawC (rs.drop (k + 1))) rfl (by rw [flatG_len rawC_len]; exact congrArg (· * 3) HRL.out) HTL.out.1 hrr HOT.out (by have := HZL.out; unfold maxLen; omega) (by have := HZL.out; omega) NZ.out.size ?_; intro v4 w4 hown4 hgrow4 hnil4; have O4 := Lib.hid (own_mores (ms := rs.drop (k + 1)) HRL.out HLE.out HO3.out HS3.out (fun r hr => (vold_all HVR.out HWX.out (HXW.out.trans (NZ.out.mono HX9.out))) r (List.mem_of_mem_drop hr)) hown4 hgrow4); have N4 := Lib.hid (NZ.out.grown hgrow4 NZ.out.size (fun j hj => (World.ownsRow.lt HO3.out j hj).1)); have hro := O4.out.row; have RB4 := rb_keep RB9.out HRB9.out N4.out; have RC4 : w4.cell? ⟨rb, 0, none⟩ = some (.slice none 0 0) := (by simp [World.cell?, RB4]); have RF4 : w4.frozen? ⟨rb, 0, none⟩ = false := (by simp [World.frozen?, RB4]); have HS4 := Lib.hid (fun u => OwnS.set O4.out HXR.out HRB9.out RB4 u); obtain ⟨a4, c4, hv4, -, -⟩ := hro.at; obtain ⟨n4, hn4⟩ : ∃ n4, (List.map abs rz ++ List.map abs (rs.drop (k + 1))).length = n4 := ⟨_, rfl⟩; rw [hn4] at hv4; clear hn4; subst hv4; clear hown4 hgrow4 hnil4 hro RB4))
                    have DD := Lib.hid ((HXW.out.trans (N4.out.mono HX9.out)).setCell (p := ⟨rb, 0, none⟩) HXR.out (.slice a4 n4 c4))
                    have HRow := HS4.out (.slice a4 n4 c4)
                    rw [HM3.out, HTD.out] at HRow
                    have HRow := Lib.hid HRow
                    have e1 := HWX.out
                    subst e1
                    exact bodyPost_ret (v := .tuple #[.agg #[.slice a4 n4 c4], .int .i64 0]) (by simp [results, Try.results12, go_sem, RC4]) rfl ⟨⟨.slice a4 n4 c4, by rw [HE.out], by rw [HE.out]; exact HRow.out⟩, DD.out⟩
                  · refine AllReadyH.cons (o := { dst := some 90, op := Op.buildSlice 22 1 #[(0, Operand.tmp 89)], type := 22, pos := "ref.go:43", after := #[{ on := 11, ground := Ground.data }], guard := none }) rfl (fun K1 hK => ?_) AllReadyH.nil
                    go_simp
                    have NB2 : Hid (Below w9.heap.size w9 ((w9.drew.alloc (.cells #[] 59)).alloc (.cells #[.int .i64 w1, .string w2, .slice a6 NV.length c6] 59))) := NB1.out.alloc NB1.out.size _
                    have S2 := HAB9.out.on NB2.out
                    unfold AB at S2
                    refine hK.out _ _ S2 (fun hHeld => ?_)
                    clear hK K1 S2
                    (try simp only [Act.put, List.setIfInBounds_toArray, List.set_cons_zero, List.set_cons_succ])
                    refine wpAnyH_ready (rs := [5]) (by kernel_rfl) (by simp) ?_
                    refine AllReadyH.cons (o := { dst := some 83, op := Op.call { callee := Callee.builtin Builtin.append, args := #[Operand.tmp 78, Operand.tmp 82], argTypes := #[22, 22] }, type := 22, pos := "ref.go:43", after := #[{ on := 0, ground := Ground.data }, { on := 4, ground := Ground.data }], guard := none }) rfl (fun K1 hK => ?_) AllReadyH.nil
                    refine step_append_any ((w9.drew.alloc (.cells #[] 59)).alloc (.cells #[.int .i64 w1, .string w2, .slice a6 NV.length c6] 59)) (by rfl) _ _ _ (by rfl) w9.heap.size 59 j0 _ 3 48 Try.underlying22 HI.out.1 HI.out.2.1 HI.out.2.2.1 HI.out.2.2.2 rfl (by omega) (.slice (some ⟨w9.heap.size, 0, none⟩) 0 0) 0 [] (by rfl) (O1.out.alloc (.cells #[.int .i64 w1, .string w2, .slice a6 NV.length c6] 59)) (some (⟨b, o, none⟩ : Addr)) k c (flatG rawC (rs.take k)) (by rfl) (by rw [flatG_len rawC_len, HLK.out]) HHD.out.1 (HHD.out.2 _ NB2.out) HO1.out.1 (by unfold maxLen; omega) (by omega) NB2.out.size ?_
                    intro v1 u3 hown1 hgrow1 hnil1
                    have O3 : Hid (u3.ownsRow w9.heap.size 59 3 v1 k (flatG rawC (rs.take k))) := by show World.ownsRow _ _ _ _ _ _ _; simpa using hown1
                    have NB3 := Lib.hid (NB2.out.grown hgrow1 NB2.out.size (fun j hj => ((O1.out.alloc (.cells #[.int .i64 w1, .string w2, .slice a6 NV.length c6] 59))).lt j hj |>.1))
                    have G3 := Lib.hid hgrow1
                    have S3 := HAB9.out.on NB3.out
                    unfold AB at S3
                    clear hown1 hgrow1 hnil1
                    refine hK.out _ _ S3 (fun hHeld => ?_)
                    clear hK K1 S3
                    (try simp only [Act.put, List.setIfInBounds_toArray, List.set_cons_zero, List.set_cons_succ])
                    refine wpAnyH_ready (rs := [13]) (by kernel_rfl) (by simp) ?_
                    refine AllReadyH.cons (o := { dst := some 91, op := Op.call { callee := Callee.builtin Builtin.append, args := #[Operand.tmp 83, Operand.tmp 90], argTypes := #[22, 22] }, type := 22, pos := "ref.go:43", after := #[{ on := 5, ground := Ground.data }, { on := 12, ground := Ground.data }, { on := 5, ground := Ground.chain }], guard := none }) rfl (fun K1 hK => ?_) AllReadyH.nil
                    refine step_append_own u3 (by rfl) _ _ _ (by rfl) w9.heap.size 59 j0 _ 3 48 Try.underlying22 HI.out.1 HI.out.2.1 HI.out.2.2.1 HI.out.2.2.2 rfl (by omega) v1 k (flatG rawC (rs.take k)) (by rfl) O3.out ⟨(w9.heap.size + 1), 0, none⟩ 1 1 (rawC ⟨w1, w2, .slice a6 NV.length c6, NV⟩) (by rfl) (by rfl) (ent_grown (newE (w9.drew.alloc (.cells #[] 59)) w1 w2 (.slice a6 NV.length c6)) (by simp) G3.out (by simp [Value.ownBlock])) HO1.out.2 (by unfold maxLen; omega) (by omega) NB3.out.size ?_
                    intro v2 wz hown2 hgrow2 hnil2
                    have NZ := Lib.hid (NB3.out.grown hgrow2 NB3.out.size (fun j hj => (World.ownsRow.lt O3.out j hj).1))
                    have OZ := Lib.hid (own_one (rs := rs.take k) (r := ⟨w1, w2, .slice a6 NV.length c6, NV⟩) HLE.out (own_k HLK.out O3.out) (fun r hr => (vold_all HVR.out HWX.out (HXW.out.trans (NB3.out.mono HX9.out))) r (List.mem_of_mem_take hr)) (vsafe_own (VOwn.on HVN.out NB3.out)) (by rw [HLK.out]; exact hown2) hgrow2)
                    have SZ := HAB9.out.on NZ.out
                    unfold AB at SZ
                    clear hown2 hgrow2 hnil2
                    refine hK.out _ _ SZ (fun hHeld => ?_)
                    clear hK K1
                    (try simp only [Act.put, List.setIfInBounds_toArray, List.set_cons_zero, List.set_cons_succ])
                    refine wpAnyH_take (i := 14) (oi := { dst := some 10, op := Op.assign (Operand.tmp 91), type := 22, pos := "ref.go:43", after := #[{ on := 13, ground := Ground.data }, { on := 13, ground := Ground.chain }, { on := 0, ground := Ground.phase }, { on := 1, ground := Ground.phase }, { on := 2, ground := Ground.phase }, { on := 3, ground := Ground.phase }, { on := 4, ground := Ground.phase }, { on := 5, ground := Ground.phase }, { on := 6, ground := Ground.phase }, { on := 7, ground := Ground.phase }, { on := 8, ground := Ground.phase }, { on := 9, ground := Ground.phase }, { on := 10, ground := Ground.phase }, { on := 11, ground := Ground.phase }, { on := 12, ground := Ground.phase }, { on := 13, ground := Ground.phase }], guard := none }) (v := ?_) rfl (by kernel_rfl) (by kernel_rfl) (by kernel_rfl) (fun _ _ _ h => h) (Or.inl ⟨by rfl, ?_⟩) hHeld ?_
                    rotate_left
                    · intro w hSw
                      (try dsimp only at hSw)
                      go_simp
                      (try with_reducible rfl)
                    (try simp only [Act.put, List.setIfInBounds_toArray, List.set_cons_zero, List.set_cons_succ])
                    refine wpAnyH_done (by kernel_rfl) ?_ _
                    clear hHeld SZ
                    obtain ⟨rz, ho3, hm3, hs3⟩ := OZ.out
                    rw [HTK.out] at hm3
                    have HO3 := Lib.hid ho3
                    have HM3 := Lib.hid hm3
                    have HS3 := Lib.hid hs3
                    have hzl : rz.length = k + 1 := by
                      have e1 := congrArg List.length hm3
                      rw [List.length_map, List.length_append, List.length_take] at e1
                      simp at e1
                      omega
                    have HZL := Lib.hid hzl
                    clear ho3 hm3 hs3 hzl OZ
                    have hrr := HTL.out.2 _ NZ.out
                    go_wp2_with (first | (at_builtin; refine wpList_append_any rfl _ _ 22 rfl w9.heap.size 59 j0 (.agg #[.int .i64 0, .string ⟨#[]⟩, .slice none 0 0]) 3 48 Try.underlying22 HI.out.1 HI.out.2.1 HI.out.2.2.1 HI.out.2.2.2 rfl (by decide) _ _ _ rfl HO3.out a3 (m - 1) (c - k - 1) (flatG rawC (rs.drop (k + 1))) rfl (by rw [flatG_len rawC_len]; exact congrArg (· * 3) HRL.out) HTL.out.1 hrr HOT.out (by have := HZL.out; unfold maxLen; omega) (by have := HZL.out; omega) NZ.out.size ?_; intro v4 w4 hown4 hgrow4 hnil4; have O4 := Lib.hid (own_mores (ms := rs.drop (k + 1)) HRL.out HLE.out HO3.out HS3.out (fun r hr => (vold_all HVR.out HWX.out (HXW.out.trans (NZ.out.mono HX9.out))) r (List.mem_of_mem_drop hr)) hown4 hgrow4); have N4 := Lib.hid (NZ.out.grown hgrow4 NZ.out.size (fun j hj => (World.ownsRow.lt HO3.out j hj).1)); have hro := O4.out.row; have RB4 := rb_keep RB9.out HRB9.out N4.out; have RC4 : w4.cell? ⟨rb, 0, none⟩ = some (.slice none 0 0) := (by simp [World.cell?, RB4]); have RF4 : w4.frozen? ⟨rb, 0, none⟩ = false := (by simp [World.frozen?, RB4]); have HS4 := Lib.hid (fun u => OwnS.set O4.out HXR.out HRB9.out RB4 u); obtain ⟨a4, c4, hv4, -, -⟩ := hro.at; obtain ⟨n4, hn4⟩ : ∃ n4, (List.map abs rz ++ List.map abs (rs.drop (k + 1))).length = n4 := ⟨_, rfl⟩; rw [hn4] at hv4; clear hn4; subst hv4; clear hown4 hgrow4 hnil4 hro RB4))
                    have DD := Lib.hid ((HXW.out.trans (N4.out.mono HX9.out)).setCell (p := ⟨rb, 0, none⟩) HXR.out (.slice a4 n4 c4))
                    have HRow := HS4.out (.slice a4 n4 c4)
                    rw [HM3.out, HTD.out] at HRow
                    have HRow := Lib.hid HRow
                    have e1 := HWX.out
                    subst e1
                    exact bodyPost_ret (v := .tuple #[.agg #[.slice a4 n4 c4], .int .i64 0]) (by simp [results, Try.results12, go_sem, RC4]) rfl ⟨⟨.slice a4 n4 c4, by rw [HE.out], by rw [HE.out]; exact HRow.out⟩, DD.out⟩
                · refine AllReadyH.cons (o := { dst := some 90, op := Op.buildSlice 22 1 #[(0, Operand.tmp 89)], type := 22, pos := "ref.go:43", after := #[{ on := 11, ground := Ground.data }], guard := none }) rfl (fun K1 hK => ?_) AllReadyH.nil
                  go_simp
                  have NB1 : Hid (Below w9.heap.size w9 (w9.drew.alloc (.cells #[.int .i64 w1, .string w2, .slice a6 NV.length c6] 59))) := NB0.out.alloc NB0.out.size _
                  have S1 := HAB9.out.on NB1.out
                  unfold AB at S1
                  refine hK.out _ _ S1 (fun hHeld => ?_)
                  clear hK K1 S1
                  (try simp only [Act.put, List.setIfInBounds_toArray, List.set_cons_zero, List.set_cons_succ])
                  refine wpAnyH_ready (rs := [0]) (by kernel_rfl) (by simp) ?_
                  refine AllReadyH.cons (o := { dst := some 78, op := Op.buildSlice 22 0 #[], type := 22, pos := "ref.go:43", after := #[], guard := none }) rfl (fun K1 hK => ?_) AllReadyH.nil
                  go_simp
                  have NB2 : Hid (Below w9.heap.size w9 ((w9.drew.alloc (.cells #[.int .i64 w1, .string w2, .slice a6 NV.length c6] 59)).alloc (.cells #[] 59))) := NB1.out.alloc NB1.out.size _
                  have O2 := Lib.hid (World.ownsRow_made (base := w9.heap.size) (e := 59) (size := 3) (w9.drew.alloc (.cells #[.int .i64 w1, .string w2, .slice a6 NV.length c6] 59)) #[] 0 NB1.out.size (Nat.zero_le _) (by simp))
                  have hzE : (w9.drew.alloc (.cells #[.int .i64 w1, .string w2, .slice a6 NV.length c6] 59)).heap.size = w9.heap.size + 1 := by simp
                  rw [hzE] at O2
                  clear hzE
                  have S2 := HAB9.out.on NB2.out
                  unfold AB at S2
                  refine hK.out _ _ S2 (fun hHeld => ?_)
                  clear hK K1 S2
                  (try simp only [Act.put, List.setIfInBounds_toArray, List.set_cons_zero, List.set_cons_succ])
                  refine wpAnyH_ready (rs := [5]) (by kernel_rfl) (by simp) ?_
                  refine AllReadyH.cons (o := { dst := some 83, op := Op.call { callee := Callee.builtin Builtin.append, args := #[Operand.tmp 78, Operand.tmp 82], argTypes := #[22, 22] }, type := 22, pos := "ref.go:43", after := #[{ on := 0, ground := Ground.data }, { on := 4, ground := Ground.data }], guard := none }) rfl (fun K1 hK => ?_) AllReadyH.nil
                  refine step_append_any ((w9.drew.alloc (.cells #[.int .i64 w1, .string w2, .slice a6 NV.length c6] 59)).alloc (.cells #[] 59)) (by rfl) _ _ _ (by rfl) w9.heap.size 59 j0 _ 3 48 Try.underlying22 HI.out.1 HI.out.2.1 HI.out.2.2.1 HI.out.2.2.2 rfl (by omega) (.slice (some ⟨(w9.heap.size + 1), 0, none⟩) 0 0) 0 [] (by rfl) O2.out (some (⟨b, o, none⟩ : Addr)) k c (flatG rawC (rs.take k)) (by rfl) (by rw [flatG_len rawC_len, HLK.out]) HHD.out.1 (HHD.out.2 _ NB2.out) HO1.out.1 (by unfold maxLen; omega) (by omega) NB2.out.size ?_
                  intro v1 u3 hown1 hgrow1 hnil1
                  have O3 : Hid (u3.ownsRow w9.heap.size 59 3 v1 k (flatG rawC (rs.take k))) := by show World.ownsRow _ _ _ _ _ _ _; simpa using hown1
                  have NB3 := Lib.hid (NB2.out.grown hgrow1 NB2.out.size (fun j hj => (O2.out).lt j hj |>.1))
                  have G3 := Lib.hid hgrow1
                  have S3 := HAB9.out.on NB3.out
                  unfold AB at S3
                  clear hown1 hgrow1 hnil1
                  refine hK.out _ _ S3 (fun hHeld => ?_)
                  clear hK K1 S3
                  (try simp only [Act.put, List.setIfInBounds_toArray, List.set_cons_zero, List.set_cons_succ])
                  refine wpAnyH_ready (rs := [13]) (by kernel_rfl) (by simp) ?_
                  refine AllReadyH.cons (o := { dst := some 91, op := Op.call { callee := Callee.builtin Builtin.append, args := #[Operand.tmp 83, Operand.tmp 90], argTypes := #[22, 22] }, type := 22, pos := "ref.go:43", after := #[{ on := 5, ground := Ground.data }, { on := 12, ground := Ground.data }, { on := 5, ground := Ground.chain }], guard := none }) rfl (fun K1 hK => ?_) AllReadyH.nil
                  refine step_append_own u3 (by rfl) _ _ _ (by rfl) w9.heap.size 59 j0 _ 3 48 Try.underlying22 HI.out.1 HI.out.2.1 HI.out.2.2.1 HI.out.2.2.2 rfl (by omega) v1 k (flatG rawC (rs.take k)) (by rfl) O3.out ⟨w9.heap.size, 0, none⟩ 1 1 (rawC ⟨w1, w2, .slice a6 NV.length c6, NV⟩) (by rfl) (by rfl) (ent_grown (ent_alloc (newE w9.drew w1 w2 (.slice a6 NV.length c6)) (.cells #[] 59)) rfl G3.out (by simp [Value.ownBlock])) HO1.out.2 (by unfold maxLen; omega) (by omega) NB3.out.size ?_
                  intro v2 wz hown2 hgrow2 hnil2
                  have NZ := Lib.hid (NB3.out.grown hgrow2 NB3.out.size (fun j hj => (World.ownsRow.lt O3.out j hj).1))
                  have OZ := Lib.hid (own_one (rs := rs.take k) (r := ⟨w1, w2, .slice a6 NV.length c6, NV⟩) HLE.out (own_k HLK.out O3.out) (fun r hr => (vold_all HVR.out HWX.out (HXW.out.trans (NB3.out.mono HX9.out))) r (List.mem_of_mem_take hr)) (vsafe_own (VOwn.on HVN.out NB3.out)) (by rw [HLK.out]; exact hown2) hgrow2)
                  have SZ := HAB9.out.on NZ.out
                  unfold AB at SZ
                  clear hown2 hgrow2 hnil2
                  refine hK.out _ _ SZ (fun hHeld => ?_)
                  clear hK K1
                  (try simp only [Act.put, List.setIfInBounds_toArray, List.set_cons_zero, List.set_cons_succ])
                  refine wpAnyH_take (i := 14) (oi := { dst := some 10, op := Op.assign (Operand.tmp 91), type := 22, pos := "ref.go:43", after := #[{ on := 13, ground := Ground.data }, { on := 13, ground := Ground.chain }, { on := 0, ground := Ground.phase }, { on := 1, ground := Ground.phase }, { on := 2, ground := Ground.phase }, { on := 3, ground := Ground.phase }, { on := 4, ground := Ground.phase }, { on := 5, ground := Ground.phase }, { on := 6, ground := Ground.phase }, { on := 7, ground := Ground.phase }, { on := 8, ground := Ground.phase }, { on := 9, ground := Ground.phase }, { on := 10, ground := Ground.phase }, { on := 11, ground := Ground.phase }, { on := 12, ground := Ground.phase }, { on := 13, ground := Ground.phase }], guard := none }) (v := ?_) rfl (by kernel_rfl) (by kernel_rfl) (by kernel_rfl) (fun _ _ _ h => h) (Or.inl ⟨by rfl, ?_⟩) hHeld ?_
                  rotate_left
                  · intro w hSw
                    (try dsimp only at hSw)
                    go_simp
                    (try with_reducible rfl)
                  (try simp only [Act.put, List.setIfInBounds_toArray, List.set_cons_zero, List.set_cons_succ])
                  refine wpAnyH_done (by kernel_rfl) ?_ _
                  clear hHeld SZ
                  obtain ⟨rz, ho3, hm3, hs3⟩ := OZ.out
                  rw [HTK.out] at hm3
                  have HO3 := Lib.hid ho3
                  have HM3 := Lib.hid hm3
                  have HS3 := Lib.hid hs3
                  have hzl : rz.length = k + 1 := by
                    have e1 := congrArg List.length hm3
                    rw [List.length_map, List.length_append, List.length_take] at e1
                    simp at e1
                    omega
                  have HZL := Lib.hid hzl
                  clear ho3 hm3 hs3 hzl OZ
                  have hrr := HTL.out.2 _ NZ.out
                  go_wp2_with (first | (at_builtin; refine wpList_append_any rfl _ _ 22 rfl w9.heap.size 59 j0 (.agg #[.int .i64 0, .string ⟨#[]⟩, .slice none 0 0]) 3 48 Try.underlying22 HI.out.1 HI.out.2.1 HI.out.2.2.1 HI.out.2.2.2 rfl (by decide) _ _ _ rfl HO3.out a3 (m - 1) (c - k - 1) (flatG rawC (rs.drop (k + 1))) rfl (by rw [flatG_len rawC_len]; exact congrArg (· * 3) HRL.out) HTL.out.1 hrr HOT.out (by have := HZL.out; unfold maxLen; omega) (by have := HZL.out; omega) NZ.out.size ?_; intro v4 w4 hown4 hgrow4 hnil4; have O4 := Lib.hid (own_mores (ms := rs.drop (k + 1)) HRL.out HLE.out HO3.out HS3.out (fun r hr => (vold_all HVR.out HWX.out (HXW.out.trans (NZ.out.mono HX9.out))) r (List.mem_of_mem_drop hr)) hown4 hgrow4); have N4 := Lib.hid (NZ.out.grown hgrow4 NZ.out.size (fun j hj => (World.ownsRow.lt HO3.out j hj).1)); have hro := O4.out.row; have RB4 := rb_keep RB9.out HRB9.out N4.out; have RC4 : w4.cell? ⟨rb, 0, none⟩ = some (.slice none 0 0) := (by simp [World.cell?, RB4]); have RF4 : w4.frozen? ⟨rb, 0, none⟩ = false := (by simp [World.frozen?, RB4]); have HS4 := Lib.hid (fun u => OwnS.set O4.out HXR.out HRB9.out RB4 u); obtain ⟨a4, c4, hv4, -, -⟩ := hro.at; obtain ⟨n4, hn4⟩ : ∃ n4, (List.map abs rz ++ List.map abs (rs.drop (k + 1))).length = n4 := ⟨_, rfl⟩; rw [hn4] at hv4; clear hn4; subst hv4; clear hown4 hgrow4 hnil4 hro RB4))
                  have DD := Lib.hid ((HXW.out.trans (N4.out.mono HX9.out)).setCell (p := ⟨rb, 0, none⟩) HXR.out (.slice a4 n4 c4))
                  have HRow := HS4.out (.slice a4 n4 c4)
                  rw [HM3.out, HTD.out] at HRow
                  have HRow := Lib.hid HRow
                  have e1 := HWX.out
                  subst e1
                  exact bodyPost_ret (v := .tuple #[.agg #[.slice a4 n4 c4], .int .i64 0]) (by simp [results, Try.results12, go_sem, RC4]) rfl ⟨⟨.slice a4 n4 c4, by rw [HE.out], by rw [HE.out]; exact HRow.out⟩, DD.out⟩
        · have HM := Lib.hid (HY.out T)
          go_wp2_with fail
          exact ⟨⟨k + 1, by have := HK.out; omega, by go_num, DR.out, HM⟩, by have := HK.out; simp [intOf]; omega⟩
      · have hka : k = l.length := by omega
        have i1 : ¬ (k : Int) < (l.length : Int) := by omega
        have q0 : decide ((k : Int) < (l.length : Int)) = false := decide_eq_false i1
        have HAN : Hid (aheadN w1 w2 l = k) := aheadN_at w1 w2 l k hk HT.out (fun hk' => absurd hk' hlt)
        have hdk : l.drop k = [] := List.drop_eq_nil_of_le (by omega)
        have HOLD : Hid (oldV w1 w2 (l.drop k) = []) := by show _ = _; rw [hdk]; rfl
        have HOLN : Hid (oldN w1 w2 (l.drop k) = 0) := by show _ = _; rw [hdk]; rfl
        have hcut := cutS_tail a c l.length k hk
        obtain ⟨a3, ha3⟩ : ∃ a3, (if c = k then a else a.map (·.add (k * 3))) = a3 := ⟨_, rfl⟩
        have HLK : Hid ((rs.take k).length = k) := by show _ = _; rw [List.length_take, HRSL.out]; omega
        have hm : l.length - k = 0 := by omega
        rw [hm, ha3] at hcut
        have HRL : Hid ((rs.drop k).length = 0) := by show _ = _; rw [List.length_drop, HRSL.out]; exact hm
        have HR0 : Hid (∀ W, Below xb w W → GRow rawC 3 W (.slice a3 0 (c - k)) (rs.drop k)) := fun W d => by
          have q0 := HG.out.on (show Below w.heap.size w W by rw [HXB.out.1]; exact d)
          rw [← HRSL.out] at q0
          have q1 := grow_tail q0 k
          rw [HRSL.out, hm, ha3] at q1
          exact q1
        have HCUT := Lib.hid hcut
        clear hm ha3 hcut hdk hka
        go_wp2_with fail
        go_quiet (fail)
        have hcu := HCUT.out
        generalize nq = nq1
        go_wp2_with fail
        clear hcu
        go_quiet (fail)
        have NT : Hid (Below wc.heap.size wc ((wr.drewN nq1).drewN nq)) := below_drewN (below_drewN HD.out nq1) nq
        clear b0 y0 y1 y2 y3
        generalize (wr.drewN nq1).drewN nq = wt at *
        have HABt := Lib.hid (HAB.out.on NT.out)
        have HXT := Lib.hid (d0.out.trans ((DC.out.trans (NT.out.mono DC.out.size)).mono HXA.out))
        have HRR := Lib.hid (HR0.out wt HXT.out)
        have HOL : Hid (([] : List Ver).length ≤ 999) := by show _ ≤ _; simp
        have HOK : Hid (∀ y ∈ ([] : List Ver), okV y) := fun y hy => by simp at hy
        have HDT := Lib.hid (DC.out.trans (NT.out.mono DC.out.size))
        have HFC := refFoldV_any (.slice none 0 0) (([] : List Ver)) w0 w3 wt (GRow.nil _) HOL.out HOK.out hx
        have HTL : Hid ((a3 = none → (0) = 0) ∧ ∀ W, Below wt.heap.size wt W → ∀ p, a3 = some p → ∀ j u, (flatG rawC (rs.drop k))[j]? = some u → W.cell? (p.add j) = some u) := by
          obtain ⟨q1, q2, q3, _, q4⟩ := HRR.out
          injection q3 with z1 z2 z3
          subst z1
          exact ⟨fun h => by have := gat_none q4 h; omega, fun W d => gat_news rawC_len (by decide) (q4.on d)⟩
        have HHD : Hid ((a = none → k = 0) ∧ ∀ W, Below wt.heap.size wt W → ∀ p, a = some p → ∀ j u, (flatG rawC (rs.take k))[j]? = some u → W.cell? (p.add j) = some u) := by
          have q0 := HG.out.on (show Below w.heap.size w wt by rw [HXB.out.1]; exact d0.out.trans (HDT.out.mono HXA.out))
          obtain ⟨q1, q2, q3, q5, q4⟩ := q0
          injection q3 with z1 z2 z3
          subst z1
          have q6 := gat_head q4 k
          exact ⟨fun h => by have := gat_none q6 h; rw [HLK.out] at this; exact this, fun W d => gat_news rawC_len (by decide) (q6.on d)⟩
        have HTK : Hid ((rs.take k).map abs = l.take k) := (map_take_drop HMP.out k).1
        have HTD : Hid (List.map abs (rs.drop k) = l.drop (k + 0)) := (map_take_drop HMP.out (k + 0)).2
        have HVR := Lib.hid HVR0.out
        have HOT := Lib.hid (raws_one (w := w) (rs := rs.drop k) (fun r hr => HVR.out r (List.mem_of_mem_drop hr)))
        obtain ⟨NV, hNV⟩ : ∃ NV, (([] : List Ver)) ++ [⟨w0, fold (lastC (([] : List Ver))) w3⟩] = NV := ⟨_, rfl⟩
        have HLN : Hid (NV.length = (([] : List Ver)).length + 1) := by show _ = _; rw [← hNV]; simp
        cases hvr : vright NV
        · have hf : foldV (([] : List Ver)) w0 w3 = ([], 9) := putV_no (by rw [hNV]; exact hvr)
          have HE : Hid (applyS l ⟨w0, w1, w2, w3⟩ = ([], 9)) := applyS_bad HSRT.out HAN.out HOLD.out hf
          rw [hf] at HFC
          have HFC := Lib.hid HFC
          obtain ⟨b0, y0, y1, y2, y3⟩ := HABt.out
          clear hf hvr hNV
          go_wp2_with fail
          refine (HFC.out).mono ?_
          rintro e w8 ⟨⟨v8, rfl, hv8⟩, n8⟩
          have N8 := Lib.hid (HDT.out.trans (n8.mono HDT.out.size))
          have RB8 := rb_keep RB.out.1 RB.out.2 N8.out
          have RC8 : w8.cell? ⟨rb, 0, none⟩ = some (.slice none 0 0) := by simp [World.cell?, RB8]
          have RF8 : w8.frozen? ⟨rb, 0, none⟩ = false := by simp [World.frozen?, RB8]
          obtain ⟨a8, c8, rfl, -, -⟩ := hv8.row
          have DD := Lib.hid (((d0.out).trans (N8.out.mono HXA.out)).setCell (p := ⟨rb, 0, none⟩) HXR.out (.slice none 0 0))
          clear n8 hv8 RB8
          go_wp2_with fail
          have e1 := HXB.out.1
          subst e1
          exact bodyPost_ret (v := .tuple #[.agg #[.slice none 0 0], .int .i64 9]) (by simp [results, Try.results12, go_sem, RC8]) rfl ⟨⟨.slice none 0 0, by rw [HE.out], by rw [HE.out]; exact SRow.nil _⟩, DD.out⟩
        · have hf : foldV (([] : List Ver)) w0 w3 = (NV, 0) := by rw [← hNV]; exact putV_ok (by rw [hNV]; exact hvr)
          have HE : Hid (applyS l ⟨w0, w1, w2, w3⟩ = (l.take k ++ [⟨w1, w2, NV⟩] ++ l.drop (k + 0), 0)) := applyS_ok HSRT.out HAN.out HOLD.out HOLN.out hf
          rw [hf] at HFC
          have HFC := Lib.hid HFC
          obtain ⟨b0, y0, y1, y2, y3⟩ := HABt.out
          clear hf hvr hNV
          go_wp2_with fail
          refine (HFC.out).mono ?_
          rintro e w9 ⟨⟨v6, rfl, hv6⟩, n9⟩
          have N9 := Lib.hid (HDT.out.trans (n9.mono HDT.out.size))
          have HVN0 := Lib.hid hv6
          obtain ⟨a6, c6, rfl, -, -⟩ := hv6.row
          have HAB9 := Lib.hid (HABt.out.on n9)
          have RB9 := Lib.hid (rb_keep RB.out.1 RB.out.2 N9.out)
          have HRB9 := Lib.hid (Nat.lt_of_lt_of_le RB.out.2 N9.out.size)
          have HXW := Lib.hid (d0.out.trans (N9.out.mono HXA.out))
          have HX9 : Hid (xb ≤ w9.heap.size) := by show _ ≤ _; have h1 := HXW.out.size; have h2 := HXB.out.1; omega
          have HLE := HX9
          have HWX := Lib.hid HXB.out.1
          have HVN := HVN0
          have HTL2 := Lib.hid (And.intro HTL.out.1 (fun W (d : Below w9.heap.size w9 W) => HTL.out.2 W (n9.trans (d.mono n9.size))))
          have HHD2 := Lib.hid (And.intro HHD.out.1 (fun W (d : Below w9.heap.size w9 W) => HHD.out.2 W (n9.trans (d.mono n9.size))))
          have HO1 : Hid ((∀ u ∈ flatG rawC (rs.take k), u.oneCell' = true) ∧ ∀ x ∈ rawC ⟨w1, w2, .slice a6 NV.length c6, NV⟩, x.oneCell' = true) := ⟨raws_one (fun r hr => HVR.out r (List.mem_of_mem_take hr)), rawC_one ⟨w1, w2, .slice a6 NV.length c6, NV⟩ hv6.row⟩
          clear HTL HHD hv6 HVN0 HDT HFC
          have HTL := HTL2
          have HHD := HHD2
          clear HTL2 HHD2 n9 b0 y0 y1 y2 y3
          obtain ⟨b0, y0, y1, y2, y3⟩ := HAB9.out
          go_wp2_with fail
          clear b0 y0 y1 y2 y3
          have hS : AB xb wb (.slice a l.length c) w0 w1 w2 w3 w9.drew := HAB9.out.on ((Below.refl _ _).drew)
          have HH := Lib.hid (cutS_head a c l.length k (by have := HC.out; omega))
          have NB0 : Hid (Below w9.heap.size w9 w9.drew) := (Below.refl _ _).drew
          unfold AB at hS
          have hh := HH.out
          refine wp_region_held_drew (S := fun w' => w'.cell? ⟨xb, 0, none⟩ = some (.slice a l.length c) ∧ w'.cell? ⟨wb, 0, none⟩ = some (.int .i64 w0) ∧ w'.cell? ⟨wb, 1, none⟩ = some (.int .i64 w1) ∧ w'.cell? ⟨wb, 2, none⟩ = some (.string w2) ∧ w'.cell? ⟨wb, 3, none⟩ = some (.int .i64 w3)) (by kernel_rfl) hS (fun hHeld => ?_)
          refine wpAnyH_take (i := 1) (oi := { dst := some 79, op := Op.fieldAddr 24 (Operand.tmp 2) 0, type := 0, pos := "ref.go:43", after := #[], guard := none }) (v := ?_) rfl (by kernel_rfl) (by kernel_rfl) (by kernel_rfl) (fun _ _ _ h => h) (Or.inl ⟨by rfl, ?_⟩) hHeld ?_
          rotate_left
          · intro w hSw
            (try dsimp only at hSw)
            go_simp
            (try with_reducible rfl)
          (try simp only [Act.put, List.setIfInBounds_toArray, List.set_cons_zero, List.set_cons_succ])
          refine wpAnyH_take (i := 2) (oi := { dst := some 80, op := Op.load 22 (Operand.tmp 79), type := 22, pos := "ref.go:43", after := #[{ on := 1, ground := Ground.data }], guard := none }) (v := ?_) rfl (by kernel_rfl) (by kernel_rfl) (by kernel_rfl) (fun _ _ _ h => h) (Or.inl ⟨by rfl, ?_⟩) hHeld ?_
          rotate_left
          · intro w hSw
            (try dsimp only at hSw)
            go_simp
            (try with_reducible rfl)
          (try simp only [Act.put, List.setIfInBounds_toArray, List.set_cons_zero, List.set_cons_succ])
          refine wpAnyH_take (i := 3) (oi := { dst := some 81, op := Op.move (Operand.tmp 6), type := 3, pos := "ref.go:43", after := #[], guard := none }) (v := ?_) rfl (by kernel_rfl) (by kernel_rfl) (by kernel_rfl) (fun _ _ _ h => h) (Or.inl ⟨by rfl, ?_⟩) hHeld ?_
          rotate_left
          · intro w hSw
            (try dsimp only at hSw)
            go_simp
            (try with_reducible rfl)
          (try simp only [Act.put, List.setIfInBounds_toArray, List.set_cons_zero, List.set_cons_succ])
          refine wpAnyH_take (i := 4) (oi := { dst := some 82, op := Op.slice 22 (Operand.tmp 80) none (some (Operand.tmp 81)) none, type := 22, pos := "ref.go:43", after := #[{ on := 2, ground := Ground.data }, { on := 3, ground := Ground.data }], guard := none }) (v := ?_) rfl (by kernel_rfl) (by kernel_rfl) (by kernel_rfl) (fun _ _ _ h => h) (Or.inl ⟨by rfl, ?_⟩) hHeld ?_
          rotate_left
          · intro w hSw
            (try dsimp only at hSw)
            go_simp
            (try with_reducible rfl)
          (try simp only [Act.put, List.setIfInBounds_toArray, List.set_cons_zero, List.set_cons_succ])
          refine wpAnyH_take (i := 6) (oi := { dst := some 84, op := Op.fieldAddr 26 (Operand.tmp 3) 1, type := 0, pos := "ref.go:43", after := #[], guard := none }) (v := ?_) rfl (by kernel_rfl) (by kernel_rfl) (by kernel_rfl) (fun _ _ _ h => h) (Or.inl ⟨by rfl, ?_⟩) hHeld ?_
          rotate_left
          · intro w hSw
            (try dsimp only at hSw)
            go_simp
            (try with_reducible rfl)
          (try simp only [Act.put, List.setIfInBounds_toArray, List.set_cons_zero, List.set_cons_succ])
          refine wpAnyH_take (i := 7) (oi := { dst := some 85, op := Op.load 2 (Operand.tmp 84), type := 2, pos := "ref.go:43", after := #[{ on := 6, ground := Ground.data }], guard := none }) (v := ?_) rfl (by kernel_rfl) (by kernel_rfl) (by kernel_rfl) (fun _ _ _ h => h) (Or.inl ⟨by rfl, ?_⟩) hHeld ?_
          rotate_left
          · intro w hSw
            (try dsimp only at hSw)
            go_simp
            (try with_reducible rfl)
          (try simp only [Act.put, List.setIfInBounds_toArray, List.set_cons_zero, List.set_cons_succ])
          refine wpAnyH_take (i := 8) (oi := { dst := some 86, op := Op.fieldAddr 26 (Operand.tmp 3) 2, type := 0, pos := "ref.go:43", after := #[], guard := none }) (v := ?_) rfl (by kernel_rfl) (by kernel_rfl) (by kernel_rfl) (fun _ _ _ h => h) (Or.inl ⟨by rfl, ?_⟩) hHeld ?_
          rotate_left
          · intro w hSw
            (try dsimp only at hSw)
            go_simp
            (try with_reducible rfl)
          (try simp only [Act.put, List.setIfInBounds_toArray, List.set_cons_zero, List.set_cons_succ])
          refine wpAnyH_take (i := 9) (oi := { dst := some 87, op := Op.load 9 (Operand.tmp 86), type := 9, pos := "ref.go:43", after := #[{ on := 8, ground := Ground.data }], guard := none }) (v := ?_) rfl (by kernel_rfl) (by kernel_rfl) (by kernel_rfl) (fun _ _ _ h => h) (Or.inl ⟨by rfl, ?_⟩) hHeld ?_
          rotate_left
          · intro w hSw
            (try dsimp only at hSw)
            go_simp
            (try with_reducible rfl)
          (try simp only [Act.put, List.setIfInBounds_toArray, List.set_cons_zero, List.set_cons_succ])
          refine wpAnyH_take (i := 10) (oi := { dst := some 88, op := Op.move (Operand.tmp 7), type := 57, pos := "ref.go:43", after := #[], guard := none }) (v := ?_) rfl (by kernel_rfl) (by kernel_rfl) (by kernel_rfl) (fun _ _ _ h => h) (Or.inl ⟨by rfl, ?_⟩) hHeld ?_
          rotate_left
          · intro w hSw
            (try dsimp only at hSw)
            go_simp
            (try with_reducible rfl)
          (try simp only [Act.put, List.setIfInBounds_toArray, List.set_cons_zero, List.set_cons_succ])
          refine wpAnyH_take (i := 11) (oi := { dst := some 89, op := Op.build 59 #[(0, Operand.tmp 85), (1, Operand.tmp 87), (2, Operand.tmp 88)], type := 59, pos := "ref.go:43", after := #[{ on := 7, ground := Ground.data }, { on := 9, ground := Ground.data }, { on := 10, ground := Ground.data }], guard := none }) (v := ?_) rfl (by kernel_rfl) (by kernel_rfl) (by kernel_rfl) (fun _ _ _ h => h) (Or.inl ⟨by rfl, ?_⟩) hHeld ?_
          rotate_left
          · intro w hSw
            (try dsimp only at hSw)
            go_simp
            (try with_reducible rfl)
          (try simp only [Act.put, List.setIfInBounds_toArray, List.set_cons_zero, List.set_cons_succ])
          clear hS hh
          refine wpAnyH_ready (rs := [0, 12]) (by kernel_rfl) (by simp) ?_
          refine AllReadyH.cons (o := { dst := some 78, op := Op.buildSlice 22 0 #[], type := 22, pos := "ref.go:43", after := #[], guard := none }) rfl (fun K1 hK => ?_) ?_
          · go_simp
            have NB1 : Hid (Below w9.heap.size w9 (w9.drew.alloc (.cells #[] 59))) := NB0.out.alloc NB0.out.size _
            have O1 := Lib.hid (World.ownsRow_made (base := w9.heap.size) (e := 59) (size := 3) w9.drew #[] 0 NB0.out.size (Nat.zero_le _) (by simp))
            have S1 := HAB9.out.on NB1.out
            unfold AB at S1
            refine hK.out _ _ S1 (fun hHeld => ?_)
            clear hK K1 S1
            (try simp only [Act.put, List.setIfInBounds_toArray, List.set_cons_zero, List.set_cons_succ])
            refine wpAnyH_ready (rs := [5, 12]) (by kernel_rfl) (by simp) ?_
            refine AllReadyH.cons (o := { dst := some 83, op := Op.call { callee := Callee.builtin Builtin.append, args := #[Operand.tmp 78, Operand.tmp 82], argTypes := #[22, 22] }, type := 22, pos := "ref.go:43", after := #[{ on := 0, ground := Ground.data }, { on := 4, ground := Ground.data }], guard := none }) rfl (fun K1 hK => ?_) ?_
            · refine step_append_any (w9.drew.alloc (.cells #[] 59)) (by rfl) _ _ _ (by rfl) w9.heap.size 59 j0 _ 3 48 Try.underlying22 HI.out.1 HI.out.2.1 HI.out.2.2.1 HI.out.2.2.2 rfl (by omega) (.slice (some ⟨w9.heap.size, 0, none⟩) 0 0) 0 [] (by rfl) O1.out a k c (flatG rawC (rs.take k)) (by rfl) (by rw [flatG_len rawC_len, HLK.out]) HHD.out.1 (HHD.out.2 _ NB1.out) HO1.out.1 (by unfold maxLen; omega) (by omega) NB1.out.size ?_
              intro v1 u2 hown1 hgrow1 hnil1
              have O2 : Hid (u2.ownsRow w9.heap.size 59 3 v1 k (flatG rawC (rs.take k))) := by show World.ownsRow _ _ _ _ _ _ _; simpa using hown1
              have NB2 := Lib.hid (NB1.out.grown hgrow1 NB1.out.size (fun j hj => (O1.out).lt j hj |>.1))
              have G2 := Lib.hid hgrow1
              have S2 := HAB9.out.on NB2.out
              unfold AB at S2
              clear hown1 hgrow1 hnil1
              refine hK.out _ _ S2 (fun hHeld => ?_)
              clear hK K1 S2
              (try simp only [Act.put, List.setIfInBounds_toArray, List.set_cons_zero, List.set_cons_succ])
              refine wpAnyH_ready (rs := [12]) (by kernel_rfl) (by simp) ?_
              refine AllReadyH.cons (o := { dst := some 90, op := Op.buildSlice 22 1 #[(0, Operand.tmp 89)], type := 22, pos := "ref.go:43", after := #[{ on := 11, ground := Ground.data }], guard := none }) rfl (fun K1 hK => ?_) AllReadyH.nil
              go_simp
              have NB3 : Hid (Below w9.heap.size w9 (u2.alloc (.cells #[.int .i64 w1, .string w2, .slice a6 NV.length c6] 59))) := NB2.out.alloc NB2.out.size _
              have S3 := HAB9.out.on NB3.out
              unfold AB at S3
              refine hK.out _ _ S3 (fun hHeld => ?_)
              clear hK K1 S3
              (try simp only [Act.put, List.setIfInBounds_toArray, List.set_cons_zero, List.set_cons_succ])
              refine wpAnyH_ready (rs := [13]) (by kernel_rfl) (by simp) ?_
              refine AllReadyH.cons (o := { dst := some 91, op := Op.call { callee := Callee.builtin Builtin.append, args := #[Operand.tmp 83, Operand.tmp 90], argTypes := #[22, 22] }, type := 22, pos := "ref.go:43", after := #[{ on := 5, ground := Ground.data }, { on := 12, ground := Ground.data }, { on := 5, ground := Ground.chain }], guard := none }) rfl (fun K1 hK => ?_) AllReadyH.nil
              refine step_append_own (u2.alloc (.cells #[.int .i64 w1, .string w2, .slice a6 NV.length c6] 59)) (by rfl) _ _ _ (by rfl) w9.heap.size 59 j0 _ 3 48 Try.underlying22 HI.out.1 HI.out.2.1 HI.out.2.2.1 HI.out.2.2.2 rfl (by omega) v1 k (flatG rawC (rs.take k)) (by rfl) (O2.out.alloc (.cells #[.int .i64 w1, .string w2, .slice a6 NV.length c6] 59)) ⟨u2.heap.size, 0, none⟩ 1 1 (rawC ⟨w1, w2, .slice a6 NV.length c6, NV⟩) (by rfl) (by rfl) (newE u2 w1 w2 (.slice a6 NV.length c6)) HO1.out.2 (by unfold maxLen; omega) (by omega) NB3.out.size ?_
              intro v2 wz hown2 hgrow2 hnil2
              have NZ := Lib.hid (NB3.out.grown hgrow2 NB3.out.size (fun j hj => (World.ownsRow.lt (O2.out.alloc (.cells #[.int .i64 w1, .string w2, .slice a6 NV.length c6] 59)) j hj).1))
              have OZ := Lib.hid (own_one (rs := rs.take k) (r := ⟨w1, w2, .slice a6 NV.length c6, NV⟩) HLE.out (own_k HLK.out (O2.out.alloc (.cells #[.int .i64 w1, .string w2, .slice a6 NV.length c6] 59))) (fun r hr => (vold_all HVR.out HWX.out (HXW.out.trans (NB3.out.mono HX9.out))) r (List.mem_of_mem_take hr)) (vsafe_own (VOwn.on HVN.out NB3.out)) (by rw [HLK.out]; exact hown2) hgrow2)
              have SZ := HAB9.out.on NZ.out
              unfold AB at SZ
              clear hown2 hgrow2 hnil2
              refine hK.out _ _ SZ (fun hHeld => ?_)
              clear hK K1
              (try simp only [Act.put, List.setIfInBounds_toArray, List.set_cons_zero, List.set_cons_succ])
              refine wpAnyH_take (i := 14) (oi := { dst := some 10, op := Op.assign (Operand.tmp 91), type := 22, pos := "ref.go:43", after := #[{ on := 13, ground := Ground.data }, { on := 13, ground := Ground.chain }, { on := 0, ground := Ground.phase }, { on := 1, ground := Ground.phase }, { on := 2, ground := Ground.phase }, { on := 3, ground := Ground.phase }, { on := 4, ground := Ground.phase }, { on := 5, ground := Ground.phase }, { on := 6, ground := Ground.phase }, { on := 7, ground := Ground.phase }, { on := 8, ground := Ground.phase }, { on := 9, ground := Ground.phase }, { on := 10, ground := Ground.phase }, { on := 11, ground := Ground.phase }, { on := 12, ground := Ground.phase }, { on := 13, ground := Ground.phase }], guard := none }) (v := ?_) rfl (by kernel_rfl) (by kernel_rfl) (by kernel_rfl) (fun _ _ _ h => h) (Or.inl ⟨by rfl, ?_⟩) hHeld ?_
              rotate_left
              · intro w hSw
                (try dsimp only at hSw)
                go_simp
                (try with_reducible rfl)
              (try simp only [Act.put, List.setIfInBounds_toArray, List.set_cons_zero, List.set_cons_succ])
              refine wpAnyH_done (by kernel_rfl) ?_ _
              clear hHeld SZ
              obtain ⟨rz, ho3, hm3, hs3⟩ := OZ.out
              rw [HTK.out] at hm3
              have HO3 := Lib.hid ho3
              have HM3 := Lib.hid hm3
              have HS3 := Lib.hid hs3
              have hzl : rz.length = k + 1 := by
                have e1 := congrArg List.length hm3
                rw [List.length_map, List.length_append, List.length_take] at e1
                simp at e1
                omega
              have HZL := Lib.hid hzl
              clear ho3 hm3 hs3 hzl OZ
              have hrr := HTL.out.2 _ NZ.out
              go_wp2_with (first | (at_builtin; refine wpList_append_any rfl _ _ 22 rfl w9.heap.size 59 j0 (.agg #[.int .i64 0, .string ⟨#[]⟩, .slice none 0 0]) 3 48 Try.underlying22 HI.out.1 HI.out.2.1 HI.out.2.2.1 HI.out.2.2.2 rfl (by decide) _ _ _ rfl HO3.out a3 (0) (c - k) (flatG rawC (rs.drop k)) rfl (by rw [flatG_len rawC_len]; exact congrArg (· * 3) HRL.out) (fun _ => rfl) hrr HOT.out (by have := HZL.out; unfold maxLen; omega) (by have := HZL.out; omega) NZ.out.size ?_; intro v4 w4 hown4 hgrow4 hnil4; have O4 := Lib.hid (own_mores (ms := rs.drop k) HRL.out HLE.out HO3.out HS3.out (fun r hr => (vold_all HVR.out HWX.out (HXW.out.trans (NZ.out.mono HX9.out))) r (List.mem_of_mem_drop hr)) hown4 hgrow4); have N4 := Lib.hid (NZ.out.grown hgrow4 NZ.out.size (fun j hj => (World.ownsRow.lt HO3.out j hj).1)); have hro := O4.out.row; have RB4 := rb_keep RB9.out HRB9.out N4.out; have RC4 : w4.cell? ⟨rb, 0, none⟩ = some (.slice none 0 0) := (by simp [World.cell?, RB4]); have RF4 : w4.frozen? ⟨rb, 0, none⟩ = false := (by simp [World.frozen?, RB4]); have HS4 := Lib.hid (fun u => OwnS.set O4.out HXR.out HRB9.out RB4 u); obtain ⟨a4, c4, hv4, -, -⟩ := hro.at; obtain ⟨n4, hn4⟩ : ∃ n4, (List.map abs rz ++ List.map abs (rs.drop k)).length = n4 := ⟨_, rfl⟩; rw [hn4] at hv4; clear hn4; subst hv4; clear hown4 hgrow4 hnil4 hro RB4))
              have DD := Lib.hid ((HXW.out.trans (N4.out.mono HX9.out)).setCell (p := ⟨rb, 0, none⟩) HXR.out (.slice a4 n4 c4))
              have HRow := HS4.out (.slice a4 n4 c4)
              rw [HM3.out, HTD.out] at HRow
              have HRow := Lib.hid HRow
              have e1 := HWX.out
              subst e1
              exact bodyPost_ret (v := .tuple #[.agg #[.slice a4 n4 c4], .int .i64 0]) (by simp [results, Try.results12, go_sem, RC4]) rfl ⟨⟨.slice a4 n4 c4, by rw [HE.out], by rw [HE.out]; exact HRow.out⟩, DD.out⟩
            · refine AllReadyH.cons (o := { dst := some 90, op := Op.buildSlice 22 1 #[(0, Operand.tmp 89)], type := 22, pos := "ref.go:43", after := #[{ on := 11, ground := Ground.data }], guard := none }) rfl (fun K1 hK => ?_) AllReadyH.nil
              go_simp
              have NB2 : Hid (Below w9.heap.size w9 ((w9.drew.alloc (.cells #[] 59)).alloc (.cells #[.int .i64 w1, .string w2, .slice a6 NV.length c6] 59))) := NB1.out.alloc NB1.out.size _
              have S2 := HAB9.out.on NB2.out
              unfold AB at S2
              refine hK.out _ _ S2 (fun hHeld => ?_)
              clear hK K1 S2
              (try simp only [Act.put, List.setIfInBounds_toArray, List.set_cons_zero, List.set_cons_succ])
              refine wpAnyH_ready (rs := [5]) (by kernel_rfl) (by simp) ?_
              refine AllReadyH.cons (o := { dst := some 83, op := Op.call { callee := Callee.builtin Builtin.append, args := #[Operand.tmp 78, Operand.tmp 82], argTypes := #[22, 22] }, type := 22, pos := "ref.go:43", after := #[{ on := 0, ground := Ground.data }, { on := 4, ground := Ground.data }], guard := none }) rfl (fun K1 hK => ?_) AllReadyH.nil
              refine step_append_any ((w9.drew.alloc (.cells #[] 59)).alloc (.cells #[.int .i64 w1, .string w2, .slice a6 NV.length c6] 59)) (by rfl) _ _ _ (by rfl) w9.heap.size 59 j0 _ 3 48 Try.underlying22 HI.out.1 HI.out.2.1 HI.out.2.2.1 HI.out.2.2.2 rfl (by omega) (.slice (some ⟨w9.heap.size, 0, none⟩) 0 0) 0 [] (by rfl) (O1.out.alloc (.cells #[.int .i64 w1, .string w2, .slice a6 NV.length c6] 59)) a k c (flatG rawC (rs.take k)) (by rfl) (by rw [flatG_len rawC_len, HLK.out]) HHD.out.1 (HHD.out.2 _ NB2.out) HO1.out.1 (by unfold maxLen; omega) (by omega) NB2.out.size ?_
              intro v1 u3 hown1 hgrow1 hnil1
              have O3 : Hid (u3.ownsRow w9.heap.size 59 3 v1 k (flatG rawC (rs.take k))) := by show World.ownsRow _ _ _ _ _ _ _; simpa using hown1
              have NB3 := Lib.hid (NB2.out.grown hgrow1 NB2.out.size (fun j hj => ((O1.out.alloc (.cells #[.int .i64 w1, .string w2, .slice a6 NV.length c6] 59))).lt j hj |>.1))
              have G3 := Lib.hid hgrow1
              have S3 := HAB9.out.on NB3.out
              unfold AB at S3
              clear hown1 hgrow1 hnil1
              refine hK.out _ _ S3 (fun hHeld => ?_)
              clear hK K1 S3
              (try simp only [Act.put, List.setIfInBounds_toArray, List.set_cons_zero, List.set_cons_succ])
              refine wpAnyH_ready (rs := [13]) (by kernel_rfl) (by simp) ?_
              refine AllReadyH.cons (o := { dst := some 91, op := Op.call { callee := Callee.builtin Builtin.append, args := #[Operand.tmp 83, Operand.tmp 90], argTypes := #[22, 22] }, type := 22, pos := "ref.go:43", after := #[{ on := 5, ground := Ground.data }, { on := 12, ground := Ground.data }, { on := 5, ground := Ground.chain }], guard := none }) rfl (fun K1 hK => ?_) AllReadyH.nil
              refine step_append_own u3 (by rfl) _ _ _ (by rfl) w9.heap.size 59 j0 _ 3 48 Try.underlying22 HI.out.1 HI.out.2.1 HI.out.2.2.1 HI.out.2.2.2 rfl (by omega) v1 k (flatG rawC (rs.take k)) (by rfl) O3.out ⟨(w9.heap.size + 1), 0, none⟩ 1 1 (rawC ⟨w1, w2, .slice a6 NV.length c6, NV⟩) (by rfl) (by rfl) (ent_grown (newE (w9.drew.alloc (.cells #[] 59)) w1 w2 (.slice a6 NV.length c6)) (by simp) G3.out (by simp [Value.ownBlock])) HO1.out.2 (by unfold maxLen; omega) (by omega) NB3.out.size ?_
              intro v2 wz hown2 hgrow2 hnil2
              have NZ := Lib.hid (NB3.out.grown hgrow2 NB3.out.size (fun j hj => (World.ownsRow.lt O3.out j hj).1))
              have OZ := Lib.hid (own_one (rs := rs.take k) (r := ⟨w1, w2, .slice a6 NV.length c6, NV⟩) HLE.out (own_k HLK.out O3.out) (fun r hr => (vold_all HVR.out HWX.out (HXW.out.trans (NB3.out.mono HX9.out))) r (List.mem_of_mem_take hr)) (vsafe_own (VOwn.on HVN.out NB3.out)) (by rw [HLK.out]; exact hown2) hgrow2)
              have SZ := HAB9.out.on NZ.out
              unfold AB at SZ
              clear hown2 hgrow2 hnil2
              refine hK.out _ _ SZ (fun hHeld => ?_)
              clear hK K1
              (try simp only [Act.put, List.setIfInBounds_toArray, List.set_cons_zero, List.set_cons_succ])
              refine wpAnyH_take (i := 14) (oi := { dst := some 10, op := Op.assign (Operand.tmp 91), type := 22, pos := "ref.go:43", after := #[{ on := 13, ground := Ground.data }, { on := 13, ground := Ground.chain }, { on := 0, ground := Ground.phase }, { on := 1, ground := Ground.phase }, { on := 2, ground := Ground.phase }, { on := 3, ground := Ground.phase }, { on := 4, ground := Ground.phase }, { on := 5, ground := Ground.phase }, { on := 6, ground := Ground.phase }, { on := 7, ground := Ground.phase }, { on := 8, ground := Ground.phase }, { on := 9, ground := Ground.phase }, { on := 10, ground := Ground.phase }, { on := 11, ground := Ground.phase }, { on := 12, ground := Ground.phase }, { on := 13, ground := Ground.phase }], guard := none }) (v := ?_) rfl (by kernel_rfl) (by kernel_rfl) (by kernel_rfl) (fun _ _ _ h => h) (Or.inl ⟨by rfl, ?_⟩) hHeld ?_
              rotate_left
              · intro w hSw
                (try dsimp only at hSw)
                go_simp
                (try with_reducible rfl)
              (try simp only [Act.put, List.setIfInBounds_toArray, List.set_cons_zero, List.set_cons_succ])
              refine wpAnyH_done (by kernel_rfl) ?_ _
              clear hHeld SZ
              obtain ⟨rz, ho3, hm3, hs3⟩ := OZ.out
              rw [HTK.out] at hm3
              have HO3 := Lib.hid ho3
              have HM3 := Lib.hid hm3
              have HS3 := Lib.hid hs3
              have hzl : rz.length = k + 1 := by
                have e1 := congrArg List.length hm3
                rw [List.length_map, List.length_append, List.length_take] at e1
                simp at e1
                omega
              have HZL := Lib.hid hzl
              clear ho3 hm3 hs3 hzl OZ
              have hrr := HTL.out.2 _ NZ.out
              go_wp2_with (first | (at_builtin; refine wpList_append_any rfl _ _ 22 rfl w9.heap.size 59 j0 (.agg #[.int .i64 0, .string ⟨#[]⟩, .slice none 0 0]) 3 48 Try.underlying22 HI.out.1 HI.out.2.1 HI.out.2.2.1 HI.out.2.2.2 rfl (by decide) _ _ _ rfl HO3.out a3 (0) (c - k) (flatG rawC (rs.drop k)) rfl (by rw [flatG_len rawC_len]; exact congrArg (· * 3) HRL.out) (fun _ => rfl) hrr HOT.out (by have := HZL.out; unfold maxLen; omega) (by have := HZL.out; omega) NZ.out.size ?_; intro v4 w4 hown4 hgrow4 hnil4; have O4 := Lib.hid (own_mores (ms := rs.drop k) HRL.out HLE.out HO3.out HS3.out (fun r hr => (vold_all HVR.out HWX.out (HXW.out.trans (NZ.out.mono HX9.out))) r (List.mem_of_mem_drop hr)) hown4 hgrow4); have N4 := Lib.hid (NZ.out.grown hgrow4 NZ.out.size (fun j hj => (World.ownsRow.lt HO3.out j hj).1)); have hro := O4.out.row; have RB4 := rb_keep RB9.out HRB9.out N4.out; have RC4 : w4.cell? ⟨rb, 0, none⟩ = some (.slice none 0 0) := (by simp [World.cell?, RB4]); have RF4 : w4.frozen? ⟨rb, 0, none⟩ = false := (by simp [World.frozen?, RB4]); have HS4 := Lib.hid (fun u => OwnS.set O4.out HXR.out HRB9.out RB4 u); obtain ⟨a4, c4, hv4, -, -⟩ := hro.at; obtain ⟨n4, hn4⟩ : ∃ n4, (List.map abs rz ++ List.map abs (rs.drop k)).length = n4 := ⟨_, rfl⟩; rw [hn4] at hv4; clear hn4; subst hv4; clear hown4 hgrow4 hnil4 hro RB4))
              have DD := Lib.hid ((HXW.out.trans (N4.out.mono HX9.out)).setCell (p := ⟨rb, 0, none⟩) HXR.out (.slice a4 n4 c4))
              have HRow := HS4.out (.slice a4 n4 c4)
              rw [HM3.out, HTD.out] at HRow
              have HRow := Lib.hid HRow
              have e1 := HWX.out
              subst e1
              exact bodyPost_ret (v := .tuple #[.agg #[.slice a4 n4 c4], .int .i64 0]) (by simp [results, Try.results12, go_sem, RC4]) rfl ⟨⟨.slice a4 n4 c4, by rw [HE.out], by rw [HE.out]; exact HRow.out⟩, DD.out⟩
          · refine AllReadyH.cons (o := { dst := some 90, op := Op.buildSlice 22 1 #[(0, Operand.tmp 89)], type := 22, pos := "ref.go:43", after := #[{ on := 11, ground := Ground.data }], guard := none }) rfl (fun K1 hK => ?_) AllReadyH.nil
            go_simp
            have NB1 : Hid (Below w9.heap.size w9 (w9.drew.alloc (.cells #[.int .i64 w1, .string w2, .slice a6 NV.length c6] 59))) := NB0.out.alloc NB0.out.size _
            have S1 := HAB9.out.on NB1.out
            unfold AB at S1
            refine hK.out _ _ S1 (fun hHeld => ?_)
            clear hK K1 S1
            (try simp only [Act.put, List.setIfInBounds_toArray, List.set_cons_zero, List.set_cons_succ])
            refine wpAnyH_ready (rs := [0]) (by kernel_rfl) (by simp) ?_
            refine AllReadyH.cons (o := { dst := some 78, op := Op.buildSlice 22 0 #[], type := 22, pos := "ref.go:43", after := #[], guard := none }) rfl (fun K1 hK => ?_) AllReadyH.nil
            go_simp
            have NB2 : Hid (Below w9.heap.size w9 ((w9.drew.alloc (.cells #[.int .i64 w1, .string w2, .slice a6 NV.length c6] 59)).alloc (.cells #[] 59))) := NB1.out.alloc NB1.out.size _
            have O2 := Lib.hid (World.ownsRow_made (base := w9.heap.size) (e := 59) (size := 3) (w9.drew.alloc (.cells #[.int .i64 w1, .string w2, .slice a6 NV.length c6] 59)) #[] 0 NB1.out.size (Nat.zero_le _) (by simp))
            have hzE : (w9.drew.alloc (.cells #[.int .i64 w1, .string w2, .slice a6 NV.length c6] 59)).heap.size = w9.heap.size + 1 := by simp
            rw [hzE] at O2
            clear hzE
            have S2 := HAB9.out.on NB2.out
            unfold AB at S2
            refine hK.out _ _ S2 (fun hHeld => ?_)
            clear hK K1 S2
            (try simp only [Act.put, List.setIfInBounds_toArray, List.set_cons_zero, List.set_cons_succ])
            refine wpAnyH_ready (rs := [5]) (by kernel_rfl) (by simp) ?_
            refine AllReadyH.cons (o := { dst := some 83, op := Op.call { callee := Callee.builtin Builtin.append, args := #[Operand.tmp 78, Operand.tmp 82], argTypes := #[22, 22] }, type := 22, pos := "ref.go:43", after := #[{ on := 0, ground := Ground.data }, { on := 4, ground := Ground.data }], guard := none }) rfl (fun K1 hK => ?_) AllReadyH.nil
            refine step_append_any ((w9.drew.alloc (.cells #[.int .i64 w1, .string w2, .slice a6 NV.length c6] 59)).alloc (.cells #[] 59)) (by rfl) _ _ _ (by rfl) w9.heap.size 59 j0 _ 3 48 Try.underlying22 HI.out.1 HI.out.2.1 HI.out.2.2.1 HI.out.2.2.2 rfl (by omega) (.slice (some ⟨(w9.heap.size + 1), 0, none⟩) 0 0) 0 [] (by rfl) O2.out a k c (flatG rawC (rs.take k)) (by rfl) (by rw [flatG_len rawC_len, HLK.out]) HHD.out.1 (HHD.out.2 _ NB2.out) HO1.out.1 (by unfold maxLen; omega) (by omega) NB2.out.size ?_
            intro v1 u3 hown1 hgrow1 hnil1
            have O3 : Hid (u3.ownsRow w9.heap.size 59 3 v1 k (flatG rawC (rs.take k))) := by show World.ownsRow _ _ _ _ _ _ _; simpa using hown1
            have NB3 := Lib.hid (NB2.out.grown hgrow1 NB2.out.size (fun j hj => (O2.out).lt j hj |>.1))
            have G3 := Lib.hid hgrow1
            have S3 := HAB9.out.on NB3.out
            unfold AB at S3
            clear hown1 hgrow1 hnil1
            refine hK.out _ _ S3 (fun hHeld => ?_)
            clear hK K1 S3
            (try simp only [Act.put, List.setIfInBounds_toArray, List.set_cons_zero, List.set_cons_succ])
            refine wpAnyH_ready (rs := [13]) (by kernel_rfl) (by simp) ?_
            refine AllReadyH.cons (o := { dst := some 91, op := Op.call { callee := Callee.builtin Builtin.append, args := #[Operand.tmp 83, Operand.tmp 90], argTypes := #[22, 22] }, type := 22, pos := "ref.go:43", after := #[{ on := 5, ground := Ground.data }, { on := 12, ground := Ground.data }, { on := 5, ground := Ground.chain }], guard := none }) rfl (fun K1 hK => ?_) AllReadyH.nil
            refine step_append_own u3 (by rfl) _ _ _ (by rfl) w9.heap.size 59 j0 _ 3 48 Try.underlying22 HI.out.1 HI.out.2.1 HI.out.2.2.1 HI.out.2.2.2 rfl (by omega) v1 k (flatG rawC (rs.take k)) (by rfl) O3.out ⟨w9.heap.size, 0, none⟩ 1 1 (rawC ⟨w1, w2, .slice a6 NV.length c6, NV⟩) (by rfl) (by rfl) (ent_grown (ent_alloc (newE w9.drew w1 w2 (.slice a6 NV.length c6)) (.cells #[] 59)) rfl G3.out (by simp [Value.ownBlock])) HO1.out.2 (by unfold maxLen; omega) (by omega) NB3.out.size ?_
            intro v2 wz hown2 hgrow2 hnil2
            have NZ := Lib.hid (NB3.out.grown hgrow2 NB3.out.size (fun j hj => (World.ownsRow.lt O3.out j hj).1))
            have OZ := Lib.hid (own_one (rs := rs.take k) (r := ⟨w1, w2, .slice a6 NV.length c6, NV⟩) HLE.out (own_k HLK.out O3.out) (fun r hr => (vold_all HVR.out HWX.out (HXW.out.trans (NB3.out.mono HX9.out))) r (List.mem_of_mem_take hr)) (vsafe_own (VOwn.on HVN.out NB3.out)) (by rw [HLK.out]; exact hown2) hgrow2)
            have SZ := HAB9.out.on NZ.out
            unfold AB at SZ
            clear hown2 hgrow2 hnil2
            refine hK.out _ _ SZ (fun hHeld => ?_)
            clear hK K1
            (try simp only [Act.put, List.setIfInBounds_toArray, List.set_cons_zero, List.set_cons_succ])
            refine wpAnyH_take (i := 14) (oi := { dst := some 10, op := Op.assign (Operand.tmp 91), type := 22, pos := "ref.go:43", after := #[{ on := 13, ground := Ground.data }, { on := 13, ground := Ground.chain }, { on := 0, ground := Ground.phase }, { on := 1, ground := Ground.phase }, { on := 2, ground := Ground.phase }, { on := 3, ground := Ground.phase }, { on := 4, ground := Ground.phase }, { on := 5, ground := Ground.phase }, { on := 6, ground := Ground.phase }, { on := 7, ground := Ground.phase }, { on := 8, ground := Ground.phase }, { on := 9, ground := Ground.phase }, { on := 10, ground := Ground.phase }, { on := 11, ground := Ground.phase }, { on := 12, ground := Ground.phase }, { on := 13, ground := Ground.phase }], guard := none }) (v := ?_) rfl (by kernel_rfl) (by kernel_rfl) (by kernel_rfl) (fun _ _ _ h => h) (Or.inl ⟨by rfl, ?_⟩) hHeld ?_
            rotate_left
            · intro w hSw
              (try dsimp only at hSw)
              go_simp
              (try with_reducible rfl)
            (try simp only [Act.put, List.setIfInBounds_toArray, List.set_cons_zero, List.set_cons_succ])
            refine wpAnyH_done (by kernel_rfl) ?_ _
            clear hHeld SZ
            obtain ⟨rz, ho3, hm3, hs3⟩ := OZ.out
            rw [HTK.out] at hm3
            have HO3 := Lib.hid ho3
            have HM3 := Lib.hid hm3
            have HS3 := Lib.hid hs3
            have hzl : rz.length = k + 1 := by
              have e1 := congrArg List.length hm3
              rw [List.length_map, List.length_append, List.length_take] at e1
              simp at e1
              omega
            have HZL := Lib.hid hzl
            clear ho3 hm3 hs3 hzl OZ
            have hrr := HTL.out.2 _ NZ.out
            go_wp2_with (first | (at_builtin; refine wpList_append_any rfl _ _ 22 rfl w9.heap.size 59 j0 (.agg #[.int .i64 0, .string ⟨#[]⟩, .slice none 0 0]) 3 48 Try.underlying22 HI.out.1 HI.out.2.1 HI.out.2.2.1 HI.out.2.2.2 rfl (by decide) _ _ _ rfl HO3.out a3 (0) (c - k) (flatG rawC (rs.drop k)) rfl (by rw [flatG_len rawC_len]; exact congrArg (· * 3) HRL.out) (fun _ => rfl) hrr HOT.out (by have := HZL.out; unfold maxLen; omega) (by have := HZL.out; omega) NZ.out.size ?_; intro v4 w4 hown4 hgrow4 hnil4; have O4 := Lib.hid (own_mores (ms := rs.drop k) HRL.out HLE.out HO3.out HS3.out (fun r hr => (vold_all HVR.out HWX.out (HXW.out.trans (NZ.out.mono HX9.out))) r (List.mem_of_mem_drop hr)) hown4 hgrow4); have N4 := Lib.hid (NZ.out.grown hgrow4 NZ.out.size (fun j hj => (World.ownsRow.lt HO3.out j hj).1)); have hro := O4.out.row; have RB4 := rb_keep RB9.out HRB9.out N4.out; have RC4 : w4.cell? ⟨rb, 0, none⟩ = some (.slice none 0 0) := (by simp [World.cell?, RB4]); have RF4 : w4.frozen? ⟨rb, 0, none⟩ = false := (by simp [World.frozen?, RB4]); have HS4 := Lib.hid (fun u => OwnS.set O4.out HXR.out HRB9.out RB4 u); obtain ⟨a4, c4, hv4, -, -⟩ := hro.at; obtain ⟨n4, hn4⟩ : ∃ n4, (List.map abs rz ++ List.map abs (rs.drop k)).length = n4 := ⟨_, rfl⟩; rw [hn4] at hv4; clear hn4; subst hv4; clear hown4 hgrow4 hnil4 hro RB4))
            have DD := Lib.hid ((HXW.out.trans (N4.out.mono HX9.out)).setCell (p := ⟨rb, 0, none⟩) HXR.out (.slice a4 n4 c4))
            have HRow := HS4.out (.slice a4 n4 c4)
            rw [HM3.out, HTD.out] at HRow
            have HRow := Lib.hid HRow
            have e1 := HWX.out
            subst e1
            exact bodyPost_ret (v := .tuple #[.agg #[.slice a4 n4 c4], .int .i64 0]) (by simp [results, Try.results12, go_sem, RC4]) rfl ⟨⟨.slice a4 n4 c4, by rw [HE.out], by rw [HE.out]; exact HRow.out⟩, DD.out⟩
end Go.Proofs.Ythiofbohllmfbaa.Sh
