/- A copy of elements of some cells; slices.Insert at pins: laws and walks. -/
import Derived.Test.YtigkpfdbbifcgaaOA15
import Derived.Laws.CopyOwn
import Derived.Laws.CopyRow
import Derived.Lib.AppendZerosOnto
import Derived.Lib.Overlaps
import Derived.Lib.SliceRun
import Derived.Deep.RegionLaw
namespace Go.Proofs.Ytigkpfdbbifcgaa.Pj
open Go Go.RowKit Go.Sort Go.Lib

theorem grown_setRow (w : World) (g : Nat) (cs : Array Value) : w.grownBy (w.setRow g cs) (some g) :=
  ⟨rfl, rfl, rfl, by simp [World.setRow], fun k _ hk => setRow_other w g k cs (fun e => hk (by rw [e]))⟩
theorem grown_trans {w w1 w2 : World} {r : Option Nat} (h1 : w.grownBy w1 r) (h2 : w1.grownBy w2 r) : w.grownBy w2 r :=
  ⟨h2.os.trans h1.os, h2.tape.trans h1.tape, h2.output.trans h1.output, Nat.le_trans h1.size h2.size, fun k hk hr => (h2.block k (Nat.lt_of_lt_of_le hk h1.size) hr).trans (h1.block k hk hr)⟩
theorem grown_drew {w w1 : World} {r : Option Nat} (h : w.drew.grownBy w1 r) : w.grownBy w1 r := ⟨h.os, h.tape, h.output, h.size, h.block⟩
theorem run_copy_k {P : Program} (w : World) (dT sT ty elem : TypeId) (k g o dLen dCap : Nat) (a : Addr) (sLen sCap : Nat) (cur : Array Value) (t : TypeId) (cs : List Value)
    (hu : P.underlying dT = some (.slice elem)) (hs : (P.info? elem).map (·.size) = some k)
    (hg : w.heap[g]? = some (.cells cur t (0, 0))) (hn : cs.length = Nat.min sLen dLen * k)
    (hsrc : ∀ j v, cs[j]? = some v → w.cell? (a.add j) = some v) (hfit : o + cs.length ≤ cur.size) (h1 : ∀ v ∈ cs, v.oneCell' = true) :
    (Builtin.copy_ #[dT, sT] ty #[.slice (some ⟨g, o, none⟩) dLen dCap, .slice (some a) sLen sCap]).run P w =
      .ok (goInt (Nat.min sLen dLen)) (w.setRow g (splice cur.toList o cs).toArray) := by
  have hl := run_loadCells_list (P := P) w a cs hsrc
  have hst := run_storeCells_at P g o t cs 0 cur w hg (by simpa using hfit) h1
  cases hq : P.info? elem with
  | none => simp [hq] at hs
  | some i =>
    have hi : i.size = k := by simpa [hq] using hs
    simp [Builtin.copy_, run_underlying hu, Builtin.lenOf, Builtin.firstCells, sizeOf, typeInfo, hq, hi, ← hn, hl, hst, splice]
theorem wpList_copy_k {P : Program} {w : World} {ops : Array Oper} {rest : List Oper} {o : Oper} {a : Act} {Q : Exit → Act → World → Prop} (hgd : o.guard = none) (d s : Operand) (dT sT : TypeId)
    (ho : o.op = .call { callee := .builtin .copy, args := #[d, s], argTypes := #[dT, sT] }) (elem : TypeId) (k : Nat) (hu : P.underlying dT = some (.slice elem)) (hsz : (P.info? elem).map (·.size) = some k)
    (g off dLen dCap : Nat) (ad : Addr) (sLen sCap : Nat) (hd : a.eval d = .slice (some ⟨g, off, none⟩) dLen dCap) (hs : a.eval s = .slice (some ad) sLen sCap)
    (cur : List Value) (t : TypeId) (hg : w.heap[g]? = some (.cells cur.toArray t (0, 0))) (cs : List Value) (hn : cs.length = Nat.min sLen dLen * k)
    (hsrc : ∀ j v, cs[j]? = some v → w.cell? (ad.add j) = some v) (hfit : off + cs.length ≤ cur.length) (h1 : ∀ v ∈ cs, v.oneCell' = true)
    (h : ∀ w', Hid (w'.heap[g]? = some (.cells (splice cur off cs).toArray t (0, 0))) → Hid (w.grownBy w' (some g)) → wpList P ops Q rest (a.put o.dst (goInt (Nat.min sLen dLen))) w') : wpList P ops Q (o :: rest) a w := by
  refine wpList_plain hgd fun K hK => ?_
  have hrun := run_copy_k (P := P) w dT sT o.type elem k g off dLen dCap ad sLen sCap cur.toArray t cs hu hsz hg hn hsrc (by simpa using hfit) h1
  unfold Oper.wp
  simp [execOp, ho, resolve, invoke, builtin, hd, hs, hrun, Result.andThen]
  exact hK _ _ (h _ (show _ = _ from setRow_heap w g _ _ t _ hg) (grown_setRow w g _))
theorem step_copy_k {P : Program} {ops : Array Oper} {o : Oper} {a : Act} {w : World} {K : Act → World → Prop} {Q : Exit → Act → World → Prop} {E : Prop} (hgd : o.guard = none) (d s : Operand) (dT sT : TypeId)
    (ho : o.op = .call { callee := .builtin .copy, args := #[d, s], argTypes := #[dT, sT] }) (elem : TypeId) (k : Nat) (hu : P.underlying dT = some (.slice elem)) (hsz : (P.info? elem).map (·.size) = some k)
    (g off dLen dCap : Nat) (ad : Addr) (sLen sCap : Nat) (hd : a.eval d = .slice (some ⟨g, off, none⟩) dLen dCap) (hs : a.eval s = .slice (some ad) sLen sCap)
    (cur : List Value) (t : TypeId) (hg : w.heap[g]? = some (.cells cur.toArray t (0, 0))) (cs : List Value) (hn : cs.length = Nat.min sLen dLen * k)
    (hsrc : ∀ j v, cs[j]? = some v → w.cell? (ad.add j) = some v) (hfit : off + cs.length ≤ cur.length) (h1 : ∀ v ∈ cs, v.oneCell' = true)
    (h : ∀ w', Hid (w'.heap[g]? = some (.cells (splice cur off cs).toArray t (0, 0))) → Hid (w.grownBy w' (some g)) → K (a.put o.dst (goInt (Nat.min sLen dLen))) w') :
    if Region.wanted o (yielded ops a.tmps) = true then Oper.wp P o a w K Q else E := by
  have hw : Region.wanted o (yielded ops a.tmps) = true := by simp [Region.wanted, hgd]
  rw [if_pos hw]
  have hrun := run_copy_k (P := P) w dT sT o.type elem k g off dLen dCap ad sLen sCap cur.toArray t cs hu hsz hg hn hsrc (by simpa using hfit) h1
  unfold Oper.wp
  simp [execOp, ho, resolve, invoke, builtin, hd, hs, hrun, Result.andThen]
  exact h _ (show _ = _ from setRow_heap w g _ _ t _ hg) (grown_setRow w g _)

/-! ### what the two copies make -/
/-- In place: what stood from a on goes two on, then X comes there. -/
theorem splice_shift {α : Type} (C X D T : List α) (a : Nat) (ha : T.length = a) (hT : C.take a = T) (hX : X.length = 2) (hC : a + 2 + D.length ≤ C.length) :
    (splice (splice C (a + 2) D) a X).length = C.length ∧ (splice (splice C (a + 2) D) a X).take (a + 2 + D.length) = T ++ (X ++ D) := by
  have l1 : (splice C (a + 2) D).length = C.length := length_splice _ _ _ hC
  refine ⟨by rw [length_splice _ _ _ (by rw [l1, hX]; omega), l1], ?_⟩
  have e1 : (splice C (a + 2) D).take a = T := by
    unfold splice
    rw [List.take_append_of_le_length (by rw [List.length_take]; omega), List.take_take, Nat.min_eq_left (by omega), hT]
  have e2 : (splice C (a + 2) D).drop (a + X.length) = D ++ C.drop (a + 2 + D.length) := by
    unfold splice
    rw [hX, List.drop_append_of_le_length (by rw [List.length_take]; omega), List.drop_of_length_le (by rw [List.length_take]; omega), List.nil_append]
  show ((splice C (a + 2) D).take a ++ (X ++ (splice C (a + 2) D).drop (a + X.length))).take _ = _
  rw [e1, e2]
  have : T ++ (X ++ (D ++ C.drop (a + 2 + D.length))) = (T ++ (X ++ D)) ++ C.drop (a + 2 + D.length) := by simp
  rw [this, List.take_append_of_le_length (by simp [ha, hX]; omega), List.take_of_length_le (by simp [ha, hX]; omega)]
/-- In a new block: X comes behind T, then D. -/
theorem splice_new {α : Type} (C X D T : List α) (a : Nat) (ha : T.length = a) (hT : C.take a = T) (hX : X.length = 2) (hC : a + 2 + D.length ≤ C.length) :
    (splice (splice C a X) (a + 2) D).length = C.length ∧ (splice (splice C a X) (a + 2) D).take (a + 2 + D.length) = T ++ (X ++ D) := by
  have l1 : (splice C a X).length = C.length := length_splice _ _ _ (by omega)
  refine ⟨by rw [length_splice _ _ _ (by rw [l1]; omega), l1], ?_⟩
  have e1 : (splice C a X).take (a + 2) = T ++ X := by
    unfold splice
    rw [hT, ← List.append_assoc, List.take_append_of_le_length (by simp [ha, hX]), List.take_of_length_le (by simp [ha, hX])]
  show ((splice C a X).take (a + 2) ++ (D ++ (splice C a X).drop (a + 2 + D.length))).take _ = _
  rw [e1]
  have : T ++ X ++ (D ++ (splice C a X).drop (a + 2 + D.length)) = (T ++ (X ++ D)) ++ (splice C a X).drop (a + 2 + D.length) := by simp
  rw [this, List.take_append_of_le_length (by simp [ha, hX]; omega), List.take_of_length_le (by simp [ha, hX]; omega)]

/-! ### slices.Insert -/
theorem own_slice {w : World} {base T k n : Nat} {v : Value} {xs : List Value} (h : w.ownsRow base T k v n xs) : ∃ a c, v = .slice a n c ∧ n ≤ c := by
  rcases h.2 with ⟨h0, h1⟩ | ⟨g, cap, cur, hv, hb, hg, hc, _⟩
  · subst h1; exact ⟨none, 0, h0, Nat.le_refl _⟩
  · exact ⟨_, cap, hv, hc⟩
set_option maxRecDepth 100000 in
set_option maxHeartbeats 4000000 in
theorem insert_end (base n : Nat) (v : Value) (xs : List Value) (x : Pn) (vb : Nat) (w : World) (hn : n ≤ 1000000) (ho : w.ownsRow base 35 2 v n xs) (hx : ∀ j u, (pC x)[j]? = some u → w.cell? ((⟨vb, 0, none⟩ : Addr).add j) = some u) (h1 : ∀ u ∈ pC x, u.oneCell' = true) (hb : base ≤ w.heap.size) :
    Calls Try.prog 23 #[v, .int .i64 n, .slice (some ⟨vb, 0, none⟩) 1 1] w fun e w' => ∃ v', e = .returned v' ∧ w'.ownsRow base 35 2 v' (n + 1) (xs ++ pC x) ∧ w.grownBy w' v.ownBlock := by
  obtain ⟨j0, hi, hz0, hz1, hz2⟩ := infoP
  have HI := Lib.hid (And.intro hi (And.intro hz0 (And.intro hz1 hz2)))
  clear hi hz0 hz1 hz2
  obtain ⟨a, c, rfl, hc⟩ := own_slice ho
  have HO := Lib.hid ho
  have HX := Lib.hid hx
  have H1 := Lib.hid h1
  clear ho hx h1
  have q1 : ((n : Int) == (n : Int)) = true := by simp
  have i1 : (n : Int) ≤ (c : Int) := by omega
  go_enter Try.func23, Try.ntmps23
  go_wp2_with (first | (at_builtin; refine wpList_append_own _ rfl _ _ 22 rfl base 35 j0 (.agg #[.int .i64 0, .int .i64 0]) 2 16 Try.underlying22 HI.out.1 HI.out.2.1 HI.out.2.2.1 HI.out.2.2.2 rfl (by decide) _ _ _ rfl HO.out ⟨vb, 0, none⟩ 1 1 (pC x) rfl rfl HX.out H1.out (by unfold maxLen; omega) (by omega) hb ?_; intro v5 w3 hown5 hgrow5 hnil5))
  · rename_i h
    subst h
    go_ret
    exact ⟨_, rfl, hown5, hgrow5⟩
  · go_ret
    exact ⟨_, rfl, hown5, hgrow5⟩

set_option maxRecDepth 100000 in
set_option maxHeartbeats 4000000 in
/-- Room, and not at the end: in place. -/
theorem insert_shift (n i c g : Nat) (cur : Array Value) (rs : List Pn) (x : Pn) (vb : Nat) (vcur : Array Value) (w : World) (hn : n ≤ 1000000) (hrn : rs.length = n) (hi : i < n) (hroom : n + 1 ≤ c) (hc63 : c ≤ 9223372036854775807)
    (hg : w.heap[g]? = some (.cells cur 35 (0, 0))) (hcs : cur.size = c * 2) (hF : cur.toList.take (n * 2) = flatG pC rs) (hvb : w.heap[vb]? = some (.cells vcur 35 (0, 0))) (hvc : vcur = (pC x).toArray) (hne : vb ≠ g) (h1 : ∀ u ∈ pC x, u.oneCell' = true) (h1r : ∀ u ∈ flatG pC rs, u.oneCell' = true) :
    Calls Try.prog 23 #[.slice (some ⟨g, 0, none⟩) n c, .int .i64 i, .slice (some ⟨vb, 0, none⟩) 1 1] w fun e w' => e = .returned (.slice (some ⟨g, 0, none⟩) (n + 1) c) ∧ (∃ cur2 : List Value, w'.heap[g]? = some (.cells cur2.toArray 35 (0, 0)) ∧ cur2.length = c * 2 ∧ cur2.take ((n + 1) * 2) = flatG pC (rs.take i) ++ (pC x ++ flatG pC (rs.drop i))) ∧ w.grownBy w' (some g) := by
  have hsz : (Try.prog.info? 35).map (·.size) = some 2 := by
    obtain ⟨j0, h0, -, h2, -⟩ := infoP
    rw [h0]; simp [h2]
  have zsz : ∀ w, (Go.sizeOf 35).run Try.prog w = .ok 2 w := fun w => by
    obtain ⟨j0, h0, -, h2, -⟩ := infoP
    simp [sizeOf, typeInfo, h0, h2]
  have hglt : g < w.heap.size := by
    rcases Nat.lt_or_ge g w.heap.size with q | q
    · exact q
    · rw [Array.getElem?_eq_none q] at hg; cases hg
  have hvlt : vb < w.heap.size := by
    rcases Nat.lt_or_ge vb w.heap.size with q | q
    · exact q
    · rw [Array.getElem?_eq_none q] at hvb; cases hvb
  have hov : ∀ lb cb (W : World), W.heap = w.heap → (callFunc 28 #[.slice (some ⟨vb, 0, none⟩) 1 1, .slice (some ⟨g, (i + 1) * 2, none⟩) lb cb]).run Try.prog W = .ok (.value (.bool false)) W := fun lb cb W hW => by
    rw [run_callFunc_extern (f := 28) (fn := Try.f28) (by kernel_rfl) (by kernel_rfl) (by kernel_rfl) (by kernel_rfl) (e := Extern.SlicesOverlaps.overlaps #[22, 22] #[4]) (by kernel_rfl),
      Lib.run_overlaps_apart W 22 4 35 Try.underlying22 2 zsz ⟨vb, 0, none⟩ ⟨g, (i + 1) * 2, none⟩ 1 1 lb cb hne 35 35 2 (c * 2) (by unfold World.shape?; rw [hW]; simp only; rw [hvb]; simp [hvc, pC]) (by unfold World.shape?; rw [hW]; simp only; rw [hg]; simp [hcs]) (by omega) (by unfold World.frozen?; rw [hW]; simp only; rw [hvb]; rfl) (by unfold World.frozen?; rw [hW]; simp only; rw [hvb]; rfl)]
    rfl
  have hFl : (flatG pC rs).length = n * 2 := by rw [flatG_len pC_len, hrn]
  have hDl : (flatG pC (rs.drop i)).length = (n - i) * 2 := by rw [flatG_len pC_len, List.length_drop, hrn]
  have hTl : (flatG pC (rs.take i)).length = i * 2 := by rw [flatG_len pC_len, List.length_take, hrn, Nat.min_eq_left (by omega)]
  have hTD : flatG pC rs = flatG pC (rs.take i) ++ flatG pC (rs.drop i) := by rw [← flatG_append, List.take_append_drop]
  have hDat : ∀ (j : Nat) (u : Value), (flatG pC (rs.drop i))[j]? = some u → cur[i * 2 + j]? = some u := by
    intro j u hu
    have hj : j < (n - i) * 2 := by rw [← hDl]; exact (List.getElem?_eq_some_iff.1 hu).1
    have h2 : (flatG pC rs)[i * 2 + j]? = some u := by rw [hTD, List.getElem?_append_right (by omega), hTl, Nat.add_sub_cancel_left]; exact hu
    rw [← hF, List.getElem?_take, if_pos (by omega)] at h2
    rw [← Array.getElem?_toList]; exact h2
  have hTc : cur.toList.take (i * 2) = flatG pC (rs.take i) := by
    have := congrArg (List.take (i * 2)) hF
    rw [List.take_take, Nat.min_eq_left (show i * 2 ≤ n * 2 by omega), hTD] at this
    exact this.trans (List.take_left' hTl)
  have hXl : (pC x).length = 2 := rfl
  obtain ⟨R1, R2⟩ := splice_shift cur.toList (pC x) (flatG pC (rs.drop i)) (flatG pC (rs.take i)) (i * 2) hTl hTc hXl (by rw [hDl, Array.length_toList, hcs]; omega)
  have R2' := Lib.hid (show (splice (splice cur.toList ((i + 1) * 2) (flatG pC (rs.drop i))) (i * 2) (pC x)).take ((n + 1) * 2) = flatG pC (rs.take i) ++ (pC x ++ flatG pC (rs.drop i)) by
    have e : (n + 1) * 2 = i * 2 + 2 + (flatG pC (rs.drop i)).length := by rw [hDl]; omega
    rw [e, show (i + 1) * 2 = i * 2 + 2 by omega]; exact R2)
  have R1' := Lib.hid (show (splice (splice cur.toList ((i + 1) * 2) (flatG pC (rs.drop i))) (i * 2) (pC x)).length = c * 2 by
    rw [show (i + 1) * 2 = i * 2 + 2 by omega, R1, Array.length_toList, hcs])
  have HDS := Lib.hid (show ∀ (j : Nat) (v : Value), (flatG pC (rs.drop i))[j]? = some v → w.drew.cell? ((⟨g, i * 2, none⟩ : Addr).add j) = some v from fun j v hj => by
    rw [addr_add]
    show w.cell? _ = _
    rw [cell_of_row w g (i * 2 + j) cur 35 (0, 0) hg]; exact hDat j v hj)
  have hmn : Nat.min (n + 1 - i) (n - i) = n - i := Nat.min_eq_right (by omega)
  have HL1 := Lib.hid (show (splice cur.toList ((i + 1) * 2) (flatG pC (rs.drop i))).length = c * 2 by rw [length_splice _ _ _ (by rw [hDl, Array.length_toList, hcs]; omega), Array.length_toList, hcs])
  have hmn2 : Nat.min 1 (n + 1 - i) = 1 := Nat.min_eq_left (by omega)
  have HDL := Lib.hid hDl
  have H1D := Lib.hid (show ∀ u ∈ flatG pC (rs.drop i), u.oneCell' = true from fun u hu => h1r u (by rw [hTD]; exact List.mem_append_right _ hu))
  have HG := Lib.hid hg
  have HVB := Lib.hid (show ∀ (W : World), W.heap[vb]? = w.heap[vb]? → ∀ j u, (pC x)[j]? = some u → W.cell? ((⟨vb, 0, none⟩ : Addr).add j) = some u from fun W hW j u hu => by
    rw [addr_add, Nat.zero_add, cell_of_row W vb j vcur 35 (0, 0) (hW.trans hvb), hvc]; simpa using hu)
  clear R1 R2 hTc hDat hTD hTl hDl hFl hF hvb hg h1r
  have q1 : ((i : Int) == (n : Int)) = false := by rw [beq_eq_false_iff_ne]; omega
  have hw1 : IntKind.i64.wrap ((i : Int) + 1) = (i : Int) + 1 := by rw [IntKind.wrap_i64]; omega
  have hb1 : (0 : Int) ≤ (i : Int) + 1 := by omega
  have hb2 : (i : Int) + 1 ≤ (n : Int) + 1 := by omega
  have htn : ((i : Int) + 1).toNat = i + 1 := by omega
  have hb3 : (i : Int) ≤ (n : Int) + 1 := by omega
  have hci : ¬ (c = i + 1) := by omega
  have hci0 : ¬ (c = i) := by omega
  generalize flatG pC (rs.drop i) = D at *
  generalize flatG pC (rs.take i) = T at *
  go_enter Try.func23, Try.ntmps23
  go_wp2_with fail
  go_region_law (first
    | (rename_i Kx hKx; refine step_copy_k (by rfl) _ _ 22 22 (by rfl) 35 2 Try.underlying22 hsz g ((i + 1) * 2) (n - i) (c - (i + 1)) ⟨g, i * 2, none⟩ (n + 1 - i) (c - i) (by simp [Act.eval, Act.put]) (by simp [Act.eval, Act.put]) cur.toList 35 (by rw [Array.toArray_toList]; exact HG.out) D (by rw [HDL.out, hmn]) HDS.out (by rw [HDL.out, Array.length_toList, hcs]; omega) H1D.out ?_; intro w1 HG1 HB1; refine hKx _ _ ?_; clear hKx Kx)
    | fail)
  obtain ⟨w2, hcp, HG2, HB2⟩ : ∃ w2, Sem.run Try.prog (Builtin.copy_ #[22, 22] 3 #[.slice (some ⟨g, i * 2, none⟩) (n + 1 - i) (c - i), .slice (some ⟨vb, 0, none⟩) 1 1]) w1 = .ok (goInt 1) w2 ∧ Hid (w2.heap[g]? = some (.cells (splice (splice cur.toList ((i + 1) * 2) D) (i * 2) (pC x)).toArray 35 (0, 0))) ∧ Hid (w1.grownBy w2 (some g)) :=
    ⟨_, (run_copy_k w1 22 22 3 35 2 g (i * 2) (n + 1 - i) (c - i) ⟨vb, 0, none⟩ 1 1 (splice cur.toList ((i + 1) * 2) D).toArray 35 (pC x) Try.underlying22 hsz HG1.out (by rw [hmn2]; rfl) (HVB.out _ (HB1.out.block vb hvlt (by intro e; injection e with e; exact hne e))) (by rw [List.size_toArray, HL1.out]; show i * 2 + 2 ≤ c * 2; omega) h1).trans (by rw [hmn2]; rfl), setRow_heap w1 g _ _ 35 _ HG1.out, grown_setRow w1 g _⟩
  go_wp2_with fail
  go_ret
  exact ⟨rfl, ⟨_, HG2.out, R1'.out, R2'.out⟩, grown_trans (grown_drew HB1.out) HB2.out⟩

set_option maxRecDepth 100000 in
set_option maxHeartbeats 4000000 in
/-- No room, and not at the end: a new block. -/
theorem insert_grow (n i c g : Nat) (cur : Array Value) (rs : List Pn) (x : Pn) (vb : Nat) (vcur : Array Value) (w : World) (hn : n ≤ 1000000) (hrn : rs.length = n) (hi : i < n) (hnc : n ≤ c) (hroom : c < n + 1)
    (hg : w.heap[g]? = some (.cells cur 35 (0, 0))) (hF : cur.toList.take (n * 2) = flatG pC rs) (hvb : w.heap[vb]? = some (.cells vcur 35 (0, 0))) (hvc : vcur = (pC x).toArray) (h1 : ∀ u ∈ pC x, u.oneCell' = true) (h1r : ∀ u ∈ flatG pC rs, u.oneCell' = true) :
    Calls Try.prog 23 #[.slice (some ⟨g, 0, none⟩) n c, .int .i64 i, .slice (some ⟨vb, 0, none⟩) 1 1] w fun e w' => (∃ (G : Nat) (cur2 : List Value), e = .returned (.slice (some ⟨w.heap.size, 0, none⟩) (n + 1) G) ∧ n + 1 ≤ G ∧ G ≤ maxLen ∧ w'.heap[w.heap.size]? = some (.cells cur2.toArray 35 (0, 0)) ∧ cur2.length = G * 2 ∧ cur2.take ((n + 1) * 2) = flatG pC (rs.take i) ++ (pC x ++ flatG pC (rs.drop i))) ∧ w.grownBy w' (some g) := by
  obtain ⟨j0, hi0, hz0, hz1, hz2⟩ := infoP
  have hsz : (Try.prog.info? 35).map (·.size) = some 2 := by rw [hi0]; simp [hz1]
  have hglt : g < w.heap.size := by
    rcases Nat.lt_or_ge g w.heap.size with q | q
    · exact q
    · rw [Array.getElem?_eq_none q] at hg; cases hg
  have hvlt : vb < w.heap.size := by
    rcases Nat.lt_or_ge vb w.heap.size with q | q
    · exact q
    · rw [Array.getElem?_eq_none q] at hvb; cases hvb
  have hFl : (flatG pC rs).length = n * 2 := by rw [flatG_len pC_len, hrn]
  have hDl : (flatG pC (rs.drop i)).length = (n - i) * 2 := by rw [flatG_len pC_len, List.length_drop, hrn]
  have hTl : (flatG pC (rs.take i)).length = i * 2 := by rw [flatG_len pC_len, List.length_take, hrn, Nat.min_eq_left (by omega)]
  have hTD : flatG pC rs = flatG pC (rs.take i) ++ flatG pC (rs.drop i) := by rw [← flatG_append, List.take_append_drop]
  have hDat : ∀ (j : Nat) (u : Value), (flatG pC (rs.drop i))[j]? = some u → cur[i * 2 + j]? = some u := by
    intro j u hu
    have hj : j < (n - i) * 2 := by rw [← hDl]; exact (List.getElem?_eq_some_iff.1 hu).1
    have h2 : (flatG pC rs)[i * 2 + j]? = some u := by rw [hTD, List.getElem?_append_right (by omega), hTl, Nat.add_sub_cancel_left]; exact hu
    rw [← hF, List.getElem?_take, if_pos (by omega)] at h2
    rw [← Array.getElem?_toList]; exact h2
  have hTat : ∀ (j : Nat) (u : Value), (flatG pC (rs.take i))[j]? = some u → cur[j]? = some u := by
    intro j u hu
    have hj : j < i * 2 := by rw [← hTl]; exact (List.getElem?_eq_some_iff.1 hu).1
    have h2 : (flatG pC rs)[j]? = some u := by rw [hTD, List.getElem?_append_left (by omega)]; exact hu
    rw [← hF, List.getElem?_take, if_pos (by omega)] at h2
    rw [← Array.getElem?_toList]; exact h2
  have hold : (Builtin.firstCells j0.size i (.slice (some ⟨g, 0, none⟩) i c)).run Try.prog w.drew = .ok (flatG pC (rs.take i)).toArray w.drew := by
    rw [hz1]
    exact run_firstCells_some w.drew 2 i ⟨g, 0, none⟩ i c (flatG pC (rs.take i)) hTl (fun j v hj => by
      rw [addr_add, Nat.zero_add]
      show w.cell? _ = _
      rw [cell_of_row w g j cur 35 (0, 0) hg]; exact hTat j v hj)
  have hkk : (n : Int) + 1 - (i : Int) = ((n + 1 - i : Nat) : Int) := by omega
  have hik : i + (n + 1 - i) = n + 1 := by omega
  have hrz : ∀ ty, (Builtin.append_ #[22, 3] ty #[.slice (some ⟨g, 0, none⟩) i c, .int .i64 ((n : Int) + 1 - (i : Int))]).run Try.prog w =
      .ok (.slice (some ⟨w.heap.size, 0, none⟩) (n + 1) (grownCap w (n + 1) c 35)) (w.drew.alloc (.cells ((flatG pC (rs.take i)).toArray ++ Builtin.zeroCells (Value.agg #[.int .i64 0, .int .i64 0]).cells (n + 1 - i) ++ Builtin.zeroCells (Value.agg #[.int .i64 0, .int .i64 0]).cells (grownCap w (n + 1) c 35 - (n + 1))) 35)) := fun ty => by
    have h := Lib.run_append_grow_zeros w 22 3 ty 35 j0 _ .i64 .i64 Try.underlying22 Try.underlying3 hi0 hz0 (some ⟨g, 0, none⟩) i c (flatG pC (rs.take i)) hold (n + 1 - i) (by omega) (by omega) (by omega) (by omega) (by rw [hz2]; omega) (by rw [hz2, hik]; exact growslice_fits hroom (by omega))
    rw [hik] at h
    rw [hkk]
    exact h
  have hG1 : n + 1 ≤ grownCap w (n + 1) c 35 := grownCap_ge w _ _ _
  have hG2 : grownCap w (n + 1) c 35 ≤ maxLen := grownCap_le_maxLen w (n + 1) c 35 (by unfold maxLen; omega)
  obtain ⟨G, hG⟩ : ∃ G, G = grownCap w (n + 1) c 35 := ⟨_, rfl⟩
  rw [← hG] at hrz hG1 hG2
  obtain ⟨ROW, hROW⟩ : ∃ ROW : Array Value, ROW = (flatG pC (rs.take i)).toArray ++ Builtin.zeroCells (Value.agg #[.int .i64 0, .int .i64 0]).cells (n + 1 - i) ++ Builtin.zeroCells (Value.agg #[.int .i64 0, .int .i64 0]).cells (G - (n + 1)) := ⟨_, rfl⟩
  rw [← hROW] at hrz
  have hRl : ROW.size = G * 2 := by
    rw [hROW]
    simp [Builtin.zeroCells, Value.cells, hTl]
    omega
  have hRT : ROW.toList.take (i * 2) = flatG pC (rs.take i) := by
    rw [hROW]
    simp only [Array.toList_append]
    rw [List.append_assoc]
    exact List.take_left' hTl
  have hXl : (pC x).length = 2 := rfl
  obtain ⟨R1, R2⟩ := splice_new ROW.toList (pC x) (flatG pC (rs.drop i)) (flatG pC (rs.take i)) (i * 2) hTl hRT hXl (by rw [hDl, Array.length_toList, hRl]; omega)
  have R2' := Lib.hid (show (splice (splice ROW.toList (i * 2) (pC x)) ((i + 1) * 2) (flatG pC (rs.drop i))).take ((n + 1) * 2) = flatG pC (rs.take i) ++ (pC x ++ flatG pC (rs.drop i)) by
    have e : (n + 1) * 2 = i * 2 + 2 + (flatG pC (rs.drop i)).length := by rw [hDl]; omega
    rw [e, show (i + 1) * 2 = i * 2 + 2 by omega]; exact R2)
  have R1' := Lib.hid (show (splice (splice ROW.toList (i * 2) (pC x)) ((i + 1) * 2) (flatG pC (rs.drop i))).length = G * 2 by
    rw [show (i + 1) * 2 = i * 2 + 2 by omega, R1, Array.length_toList, hRl])
  have HL1 := Lib.hid (show (splice ROW.toList (i * 2) (pC x)).length = G * 2 by rw [length_splice _ _ _ (by rw [hXl, Array.length_toList, hRl]; omega), Array.length_toList, hRl])
  have HDL := Lib.hid hDl
  have H1D := Lib.hid (show ∀ u ∈ flatG pC (rs.drop i), u.oneCell' = true from fun u hu => h1r u (by rw [hTD]; exact List.mem_append_right _ hu))
  have HVB := Lib.hid (show ∀ (W : World), W.heap[vb]? = w.heap[vb]? → ∀ j u, (pC x)[j]? = some u → W.cell? ((⟨vb, 0, none⟩ : Addr).add j) = some u from fun W hW j u hu => by
    rw [addr_add, Nat.zero_add, cell_of_row W vb j vcur 35 (0, 0) (hW.trans hvb), hvc]; simpa using hu)
  have HDS := Lib.hid (show ∀ (W : World), W.heap[g]? = w.heap[g]? → ∀ (j : Nat) (v : Value), (flatG pC (rs.drop i))[j]? = some v → W.cell? ((⟨g, i * 2, none⟩ : Addr).add j) = some v from fun W hW j v hj => by
    rw [addr_add, cell_of_row W g (i * 2 + j) cur 35 (0, 0) (hW.trans hg)]; exact hDat j v hj)
  have hmn : Nat.min (n - i) (n - i) = n - i := Nat.min_eq_left (Nat.le_refl _)
  have hmn2 : Nat.min 1 (n + 1 - i) = 1 := Nat.min_eq_left (by omega)
  obtain ⟨N, hN⟩ : ∃ N, N = w.heap.size := ⟨_, rfl⟩
  have hgN : g ≠ N := by omega
  have hvN : vb ≠ N := by omega
  obtain ⟨W1, hW1⟩ : ∃ W1, W1 = w.drew.alloc (.cells ROW 35) := ⟨_, rfl⟩
  rw [← hW1, ← hN] at hrz
  have HG1 : Hid (W1.heap[N]? = some (.cells ROW 35 (0, 0))) := by rw [hW1, hN]; exact heap_alloc_new w.drew _
  have HB1 : Hid (w.grownBy W1 (some g)) := by rw [hW1]; exact ⟨rfl, rfl, rfl, by simp, fun k hk _ => (aBelow w.drew (.cells ROW 35)).block k hk⟩
  have HV1 : Hid (W1.heap[vb]? = w.heap[vb]?) := by rw [hW1]; exact (aBelow w.drew (.cells ROW 35)).block vb hvlt
  have HD1 : Hid (W1.heap[g]? = w.heap[g]?) := by rw [hW1]; exact (aBelow w.drew (.cells ROW 35)).block g hglt
  have hwz : w.heap.size < W1.heap.size := by rw [hW1]; simp
  obtain ⟨w2, hcp, HG2, HB2⟩ : ∃ w2, Sem.run Try.prog (Builtin.copy_ #[22, 22] 3 #[.slice (some ⟨N, i * 2, none⟩) (n + 1 - i) (G - i), .slice (some ⟨vb, 0, none⟩) 1 1]) W1 = .ok (goInt 1) w2 ∧ Hid (w2.heap[N]? = some (.cells (splice ROW.toList (i * 2) (pC x)).toArray 35 (0, 0))) ∧ Hid (W1.grownBy w2 (some N)) :=
    ⟨_, (run_copy_k W1 22 22 3 35 2 N (i * 2) (n + 1 - i) (G - i) ⟨vb, 0, none⟩ 1 1 ROW 35 (pC x) Try.underlying22 hsz HG1.out (by rw [hmn2]; rfl) (HVB.out _ HV1.out) (by rw [hRl]; show i * 2 + 2 ≤ G * 2; omega) h1).trans (by rw [hmn2]; rfl), setRow_heap W1 N _ _ 35 _ HG1.out, grown_setRow W1 N _⟩
  have HD2 : Hid (w2.heap[g]? = w.heap[g]?) := (HB2.out.block g (by omega) (by intro e; injection e with e; exact hgN e)).trans HD1.out
  have HDS2 := Lib.hid (show ∀ (j : Nat) (v : Value), (flatG pC (rs.drop i))[j]? = some v → w2.drew.cell? ((⟨g, i * 2, none⟩ : Addr).add j) = some v from HDS.out w2.drew HD2.out)
  have q1 : ((i : Int) == (n : Int)) = false := by rw [beq_eq_false_iff_ne]; omega
  have hw1 : IntKind.i64.wrap ((i : Int) + 1) = (i : Int) + 1 := by rw [IntKind.wrap_i64]; omega
  have hb1 : (0 : Int) ≤ (i : Int) + 1 := by omega
  have hb2 : (i : Int) + 1 ≤ (n : Int) + 1 := by omega
  have hb4 : (i : Int) ≤ (n : Int) := by omega
  have htn : ((i : Int) + 1).toNat = i + 1 := by omega
  have hb3 : (i : Int) ≤ (n : Int) + 1 := by omega
  have hci : ¬ (G = i + 1) := by omega
  have hci0 : ¬ (G = i) := by omega
  have hci2 : ¬ (c = i) := by omega
  have hz3 : (c : Int) < (n : Int) + 1 := by omega
  have hgb : g ≠ w.heap.size := by omega
  clear hW1 hROW hG hold HDS HD1 HV1 HVB hTD hTl hDl hFl hF hvb hg h1r hRl hRT R1 R2 hDat hTat hi0 hz0 hz1 hz2 hkk hik HG1
  generalize flatG pC (rs.drop i) = D at *
  generalize flatG pC (rs.take i) = T at *
  rw [← hN]
  have HN := Lib.hid hN
  clear hN
  go_enter Try.func23, Try.ntmps23
  go_wp2_with (at_builtin; refine Lib.wpList_append_run _ rfl _ _ _ _ rfl _ _ rfl rfl _ _ (hrz _) ?_)
  go_region_law (rename_i Kx hKx; refine step_copy_k (by rfl) _ _ 22 22 (by rfl) 35 2 Try.underlying22 hsz N ((i + 1) * 2) (n - i) (G - (i + 1)) ⟨g, i * 2, none⟩ (n - i) (c - i) (by simp [Act.eval, Act.put]) (by simp [Act.eval, Act.put]) (splice ROW.toList (i * 2) (pC x)) 35 HG2.out D (by rw [HDL.out, hmn]) HDS2.out (by rw [HDL.out, HL1.out]; omega) H1D.out ?_; intro w3 HG3 HB3; refine hKx _ _ ?_; clear hKx Kx)
  go_wp2_with fail
  go_ret
  refine ⟨⟨G, _, rfl, hG1, hG2, HG3.out, R1'.out, R2'.out⟩, ?_⟩
  have b2 := HB2.out
  have b3 := HB3.out
  have b1 := HB1.out
  have hNw := HN.out
  exact ⟨b3.os.trans (b2.os.trans b1.os), b3.tape.trans (b2.tape.trans b1.tape), b3.output.trans (b2.output.trans b1.output), Nat.le_trans b1.size (Nat.le_trans b2.size b3.size), fun k hk hr => (b3.block k (Nat.lt_of_lt_of_le hk (Nat.le_trans b1.size b2.size)) (by intro e; injection e with e; omega)).trans ((b2.block k (Nat.lt_of_lt_of_le hk b1.size) (by intro e; injection e with e; omega)).trans (b1.block k hk hr))⟩

/-- What an insertion makes of pins that the call made. -/
theorem insert_any (base : Nat) (v : Value) (l : List Pn) (i : Nat) (x : Pn) (vb : Nat) (w : World) (hi : i ≤ l.length) (hn : l.length ≤ 1000000) (ho : w.ownsRow base 35 2 v l.length (flatG pC l)) (hb : base ≤ w.heap.size)
    (hvb : w.heap[vb]? = some (.cells (pC x).toArray 35 (0, 0))) (hne : v.ownBlock ≠ some vb) :
    Calls Try.prog 23 #[v, .int .i64 i, .slice (some ⟨vb, 0, none⟩) 1 1] w fun e w' => ∃ v', e = .returned v' ∧ w'.ownsRow base 35 2 v' (l.take i ++ (x :: l.drop i)).length (flatG pC (l.take i ++ (x :: l.drop i))) ∧ Below base w w' := by
  have h1 := pC_one x
  have h1r : ∀ u ∈ flatG pC l, u.oneCell' = true := flatG_cells1 pC_one l
  have hB : ∀ w' : World, w.grownBy w' v.ownBlock → Below base w w' := fun w' hg => (Below.refl base w).grown hg hb (fun k hk => (ho.lt k hk).1)
  have e1 : (l.take i ++ (x :: l.drop i)).length = l.length + 1 := by simp; omega
  have e2 : flatG pC (l.take i ++ (x :: l.drop i)) = flatG pC (l.take i) ++ (pC x ++ flatG pC (l.drop i)) := by rw [flatG_append]; rfl
  rw [e1, e2]
  by_cases hin : i = l.length
  · have hc := insert_end base l.length v (flatG pC l) x vb w (by omega) ho (fun j u hu => by
      rw [addr_add, Nat.zero_add, cell_of_row w vb j _ 35 (0, 0) hvb]; simpa using hu) h1 hb
    rw [← hin] at hc
    refine hc.mono ?_
    rintro e w' ⟨v', rfl, ho', hg⟩
    refine ⟨v', rfl, ?_, hB w' hg⟩
    rw [List.take_of_length_le (Nat.le_of_eq hin.symm), List.drop_of_length_le (Nat.le_of_eq hin.symm), show flatG pC ([] : List Pn) = [] from rfl, List.append_nil, ← hin]
    exact ho'
  · rcases ho.2 with ⟨h0, h2⟩ | ⟨g, cap, cur, hv, hbg, hg, hc, hcm, hcs, ht⟩
    · omega
    · subst hv
      by_cases hroom : l.length + 1 ≤ cap
      · have hcc := insert_shift l.length i cap g cur l x vb _ w (by omega) rfl (by omega) hroom hcm hg hcs ht hvb rfl (fun e => hne (by rw [e]; rfl)) h1 h1r
        refine hcc.mono ?_
        rintro e w' ⟨rfl, ⟨cur2, g1, g2, g3⟩, hgr⟩
        refine ⟨_, rfl, ⟨?_, Or.inr ⟨g, cap, cur2.toArray, rfl, hbg, g1, hroom, hcm, by simpa using g2, g3⟩⟩, hB w' hgr⟩
        rw [← g3, List.length_take, g2]; omega
      · have hcc := insert_grow l.length i cap g cur l x vb _ w (by omega) rfl (by omega) hc (by omega) hg ht hvb rfl h1 h1r
        refine hcc.mono ?_
        rintro e w' ⟨⟨G, cur2, rfl, k1, k2, g1, g2, g3⟩, hgr⟩
        refine ⟨_, rfl, ⟨?_, Or.inr ⟨w.heap.size, G, cur2.toArray, rfl, hb, g1, k1, k2, by simpa using g2, g3⟩⟩, hB w' hgr⟩
        rw [← g3, List.length_take, g2]; omega
end Go.Proofs.Ytigkpfdbbifcgaa.Pj
