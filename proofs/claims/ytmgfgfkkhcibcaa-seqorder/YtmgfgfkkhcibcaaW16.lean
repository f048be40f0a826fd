/- Walks of seq: the document's Pop; queues in memory. -/
import Derived.Test.YtmgfgfkkhcibcaaW15
namespace Go.Proofs.Ytmgfgfkkhcibcaa.Se
open Go Go.RowKit

theorem cutW_tail (a : Option Addr) (c n k : Nat) (hk : k ≤ n) (w : World) : Sem.run Try.prog (Instr.sliceAt 22 (.slice a n c) (some (.int .i64 (k : Int))) none none) w = .ok (.slice (if c = k then a else a.map (·.add (k * 4))) (n - k) (c - k)) w := by
  have h0 : (0 : Int) ≤ (k : Int) := by omega
  have h1 : (k : Int) ≤ (n : Int) := by omega
  have hu := Try.underlying22
  go_simp
theorem cutW_one (a : Option Addr) (c n : Nat) (h : 1 ≤ n) (w : World) : Sem.run Try.prog (Instr.sliceAt 22 (.slice a n c) (some (.int .i64 1)) none none) w = .ok (.slice (if c = 1 then a else a.map (·.add 4)) (n - 1) (c - 1)) w :=
  cutW_tail a c n 1 h w
theorem gatW_one {w : World} {a : Option Addr} {x : Wr} {r : List Wr} {c : Nat} (h : WAt w a (x :: r)) (hc : r.length + 1 ≤ c) : WAt w (if c = 1 then a else a.map (·.add 4)) r := gat_tail (n := 1) h hc

/-- A write's box. -/
def WBox (w : World) (b : Nat) (x : Wr) : Prop := w.heap[b]? = some (.cells (wC x).toArray 29 (0, 0))
theorem WBox.facts {w : World} {b : Nat} {x : Wr} (h : WBox w b x) : (w.cell? ⟨b, 0, none⟩ = some (.int .i64 x.st) ∧ w.cell? ⟨b, 1, none⟩ = some (.int .i64 x.win) ∧ w.cell? ⟨b, 2, none⟩ = some (.string x.key) ∧ w.cell? ⟨b, 3, none⟩ = some (.int .i64 x.val)) ∧ w.frozen? ⟨b, 0, none⟩ = false ∧ w.frozen? ⟨b, 1, none⟩ = false ∧ w.frozen? ⟨b, 2, none⟩ = false ∧ w.frozen? ⟨b, 3, none⟩ = false := by
  have hc := fun i => cell_of_row w b i _ 29 (0, 0) h
  unfold WBox at h
  refine ⟨⟨by rw [hc]; rfl, by rw [hc]; rfl, by rw [hc]; rfl, by rw [hc]; rfl⟩, ?_, ?_, ?_, ?_⟩ <;> (unfold World.frozen?; simp only; rw [h]; rfl)

set_option maxRecDepth 100000 in
theorem refPop_zero (a : Option Addr) (c : Nat) (w : World) :
    Calls Try.prog 11 #[.slice a 0 c] w fun e w' => e = .returned (.tuple #[wV zeroW, .slice none 0 0, .bool false]) ∧ Below w.heap.size w w' := by
  go_enter Try.func11, Try.ntmps11
  go_wp2_with fail
  exact bodyPost_ret (v := .tuple #[wV zeroW, .slice none 0 0, .bool false]) (by simp [results, Try.results11, go_sem, wV, zeroW]) rfl ⟨rfl, aBelow _ _⟩

theorem wpop_end {w w3 : World} {x : Wr} {v : Value} {r : List Wr} (ho : w3.ownsRow (w.heap.size + 1) 29 4 v r.length (flatG wC r)) (hd : Below w.heap.size w w3) :
    WRow ((((w3.setCell ⟨w.heap.size, 0, none⟩ (.int .i64 x.st)).setCell ⟨w.heap.size, 1, none⟩ (.int .i64 x.win)).setCell ⟨w.heap.size, 2, none⟩ (.string x.key)).setCell ⟨w.heap.size, 3, none⟩ (.int .i64 x.val)) v r ∧
    Below w.heap.size w ((((w3.setCell ⟨w.heap.size, 0, none⟩ (.int .i64 x.st)).setCell ⟨w.heap.size, 1, none⟩ (.int .i64 x.win)).setCell ⟨w.heap.size, 2, none⟩ (.string x.key)).setCell ⟨w.heap.size, 3, none⟩ (.int .i64 x.val)) := by
  have g0 := ownsRow_setCell_other ho (a := ⟨w.heap.size, 0, none⟩) (fun e => absurd (ho.lt _ e).1 (Nat.not_succ_le_self _)) (.int .i64 x.st)
  have g1 := ownsRow_setCell_other g0 (a := ⟨w.heap.size, 1, none⟩) (fun e => absurd (g0.lt _ e).1 (Nat.not_succ_le_self _)) (.int .i64 x.win)
  have g2 := ownsRow_setCell_other g1 (a := ⟨w.heap.size, 2, none⟩) (fun e => absurd (g1.lt _ e).1 (Nat.not_succ_le_self _)) (.string x.key)
  have g3 := ownsRow_setCell_other g2 (a := ⟨w.heap.size, 3, none⟩) (fun e => absurd (g2.lt _ e).1 (Nat.not_succ_le_self _)) (.int .i64 x.val)
  exact ⟨ownG_row wC_len g3, (((hd.setCell (Nat.le_refl _) _).setCell (Nat.le_refl _) _).setCell (Nat.le_refl _) _).setCell (Nat.le_refl _) _⟩

set_option maxRecDepth 100000 in
set_option maxHeartbeats 2000000 in
theorem refPop_cons (a : Option Addr) (c : Nat) (x : Wr) (r : List Wr) (w : World) (h : WAt w a (x :: r)) (hc : r.length + 1 ≤ c) (hr : r.length ≤ 1000000) :
    Calls Try.prog 11 #[.slice a (r.length + 1) c] w fun e w' => (∃ v', e = .returned (.tuple #[wV x, v', .bool true]) ∧ WRow w' v' r) ∧ Below w.heap.size w w' := by
  obtain ⟨j0, hi, hz0, hz1, hz2⟩ := infoW
  have HI := Lib.hid (And.intro hi (And.intro hz0 (And.intro hz1 hz2)))
  clear hi hz0 hz1 hz2
  obtain ⟨b, o, rfl, hb, hL⟩ := h (by simp)
  obtain ⟨d0, d1, d2, d3⟩ := w_at hL 0 (by simp)
  simp only [Nat.zero_mul, Nat.add_zero, List.getElem_cons_zero] at d0 d1 d2 d3
  have HT := Lib.hid (gatW_one h hc)
  obtain ⟨N, hN⟩ : ∃ N, r.length + 1 = N := ⟨_, rfl⟩
  have hN1 : 1 ≤ N := by omega
  have hcut := cutW_one (some ⟨b, o, none⟩) c N hN1
  rw [hN]
  obtain ⟨M, hM⟩ : ∃ M, N - 1 = M := ⟨_, rfl⟩
  rw [hM] at hcut
  obtain ⟨ad, had⟩ : ∃ ad, (if c = 1 then some ⟨b, o, none⟩ else (some (⟨b, o, none⟩ : Addr)).map (·.add 4)) = some ad := by split <;> exact ⟨_, rfl⟩
  rw [had] at hcut HT
  have HMr : Hid (r.length = M) := by show _ = _; omega
  have hM6 : M ≤ 1000000 := by omega
  obtain ⟨xs, xw, xk, xv⟩ := x
  simp only at d0 d1 d2 d3
  clear had hL h
  have i1 : ¬ (N : Int) = 0 := by omega
  have i2 : ((N : Int) == 0) = false := by simp; omega
  have i3 : 0 < N := by omega
  have dA := Lib.hid (((aBelow w (.cells #[.int .i64 0, .int .i64 0, .string ⟨#[]⟩, .int .i64 0] 29)).trans ((aBelow _ (.cells #[] 29)).mono (by simp))).drew)
  have HN0 := Lib.hid (gat_news wC_len (by decide) (HT.out.on dA.out) _ rfl)
  have HL0 : Hid ((flatG wC r).length = M * 4) := by show _ = _; rw [flatG_len wC_len, HMr.out]
  have HM0 := Lib.hid (show (((w.alloc (.cells #[.int .i64 0, .int .i64 0, .string ⟨#[]⟩, .int .i64 0] 29)).alloc (.cells #[] 29)).drew).ownsRow (w.heap.size + 1) 29 4 (.slice (some ⟨w.heap.size + 1, 0, none⟩) 0 0) 0 [] from by
    have := World.ownsRow_made (base := w.heap.size + 1) (e := 29) (size := 4) (w.alloc (.cells #[.int .i64 0, .int .i64 0, .string ⟨#[]⟩, .int .i64 0] 29)) #[] 0 (by simp) (Nat.zero_le _) (by simp)
    rw [show (w.alloc (.cells #[.int .i64 0, .int .i64 0, .string ⟨#[]⟩, .int .i64 0] 29)).heap.size = w.heap.size + 1 by simp] at this
    exact this)
  have HPK : Hid (∀ w3 : World, (((w.alloc (.cells #[.int .i64 0, .int .i64 0, .string ⟨#[]⟩, .int .i64 0] 29)).alloc (.cells #[] 29)).drew).grownBy w3 (some (w.heap.size + 1)) → WBox w3 w.heap.size zeroW ∧ ∀ i, w3.cell? ⟨b, i, none⟩ = w.cell? ⟨b, i, none⟩) := by
    intro w3 hg
    refine ⟨?_, fun i => ?_⟩
    rotate_left
    · rw [World.cell?_of_block (a := ⟨b, i, none⟩) (hg.block b (by simp; omega) (fun e => by injection e with e; omega)), dA.out.cell (p := ⟨b, i, none⟩) hb]
    unfold WBox
    rw [hg.block w.heap.size (by simp; omega) (by simp)]
    show ((w.alloc _).alloc _).heap[w.heap.size]? = _
    rw [(aBelow (w.alloc _) _).block _ (by simp), heap_alloc_new]
    rfl
  clear hN hM
  go_enter Try.func11, Try.ntmps11
  go_wp2_with fail
  go_region_law (rename_i Kx hKx; refine step_append_own _ (by rfl) _ _ 22 (by rfl) (w.heap.size + 1) 29 j0 (.agg #[.int .i64 0, .int .i64 0, .string ⟨#[]⟩, .int .i64 0]) 4 40 Try.underlying22 HI.out.1 HI.out.2.1 HI.out.2.2.1 HI.out.2.2.2 rfl (by decide) (.slice (some ⟨w.heap.size + 1, 0, none⟩) 0 0) 0 [] (by simp [Act.eval]) HM0.out ad M (c - 1) (flatG wC r) (by simp [Act.eval]) HL0.out HN0.out (flatG_cells1 wC_one r) (by unfold maxLen; omega) (by omega) (by simp) ?_; intro v5 w3 hown5 hgrow5 hnil5; have HX := Lib.hid (And.intro (show w3.ownsRow (w.heap.size + 1) 29 4 v5 r.length (flatG wC r) by rw [HMr.out]; simpa using hown5) hgrow5); have ck := HPK.out w3 hgrow5; obtain ⟨⟨c0, c1, c2, c3⟩, f0, f1, f2, f3⟩ := ck.1.facts; have e0 := (ck.2 _).trans d0; have e1 := (ck.2 _).trans d1; have e2 := (ck.2 _).trans d2; have e3 := (ck.2 _).trans d3; clear hown5 hgrow5 hnil5 ck; refine hKx _ _ ?_; clear hKx Kx)
  all_goals
    have hE := wpop_end (w := w) (x := ⟨xs, xw, xk, xv⟩) HX.out.1 (dA.out.grown HX.out.2 (Nat.le_trans (Nat.le_succ _) (by simp)) (fun k hk => by have hk : some (w.heap.size + 1) = some k := hk; injection hk with hk; omega))
    clear HX HPK HM0 HL0 HN0 HT HI
    go_wp2_with fail
    exact bodyPost_ret (v := .tuple #[wV ⟨xs, xw, xk, xv⟩, v5, .bool true]) (by simp [results, Try.results11, go_sem, wV, c0, c1, c2, c3]) rfl ⟨⟨_, rfl, hE.1⟩, hE.2⟩
theorem refPop_any (v : Value) (q : List Wr) (w : World) (h : WRow w v q) (hn : q.length ≤ 1000000) :
    Calls Try.prog 11 #[v] w fun e w' => (∃ v', e = .returned (.tuple #[wV (popQ q).1, v', .bool (popQ q).2.2]) ∧ WRow w' v' (popQ q).2.1) ∧ Below w.heap.size w w' := by
  obtain ⟨a, c, rfl, hc, hl⟩ := h
  cases q with
  | nil => exact (refPop_zero a c w).mono fun e w' ⟨he, hd⟩ => ⟨⟨_, he, GRow.nil _⟩, hd⟩
  | cons x r => exact refPop_cons a c x r w hl hc (by simp at hn; omega)

/-! ### queues in memory -/
def qC (r : Value × List Wr) : List Value := [r.1]
theorem qC_len (r : Value × List Wr) : (qC r).length = 1 := rfl
def LRow (w : World) (v : Value) (L : List (List Wr)) : Prop := ∃ rs : List (Value × List Wr), GRow qC 1 w v rs ∧ rs.map (·.2) = L ∧ ∀ r ∈ rs, WRow w r.1 r.2
theorem LRow.on {w w1 : World} {v : Value} {L : List (List Wr)} (h : LRow w v L) (n : Below w.heap.size w w1) : LRow w1 v L := by
  obtain ⟨rs, h1, h2, h3⟩ := h
  exact ⟨rs, h1.on n, h2, fun r hr => (h3 r hr).on n⟩
/-- As they lie. -/
def LAt (w : World) (a : Option Addr) (L : List (List Wr)) : Prop := ∀ i (hi : i < L.length), ∃ b o s, a = some ⟨b, o, none⟩ ∧ b < w.heap.size ∧ w.cell? ⟨b, o + i, none⟩ = some s ∧ WRow w s L[i]
theorem LRow.open {w : World} {v : Value} {L : List (List Wr)} (h : LRow w v L) : ∃ a c, v = .slice a L.length c ∧ L.length ≤ c ∧ LAt w a L := by
  obtain ⟨rs, ⟨a, c, rfl, hc, hl⟩, rfl, h3⟩ := h
  refine ⟨a, c, by rw [List.length_map], by rw [List.length_map]; exact hc, fun i hi => ?_⟩
  have hi' : i < rs.length := by simpa using hi
  obtain ⟨b, o, ha, hb, hL⟩ := hl (ne_of_lt hi')
  refine ⟨b, o, (rs[i]).1, ha, hb, ?_, ?_⟩
  · have := hL i hi' 0 _ rfl
    rw [Nat.mul_one, Nat.add_zero] at this
    exact this
  · rw [List.getElem_map]
    exact h3 _ (List.getElem_mem hi')
theorem LAt.on {w w1 : World} {a : Option Addr} {L : List (List Wr)} (h : LAt w a L) (n : Below w.heap.size w w1) : LAt w1 a L := by
  intro i hi
  obtain ⟨b, o, s, ha, hb, hc, hr⟩ := h i hi
  exact ⟨b, o, s, ha, Nat.lt_of_lt_of_le hb n.size, keepC n hc hb, hr.on n⟩
end Go.Proofs.Ytmgfgfkkhcibcaa.Se
