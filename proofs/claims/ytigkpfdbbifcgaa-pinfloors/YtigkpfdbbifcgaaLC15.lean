/- Walk over Own15: the law PinFloors. -/
import Derived.Test.YtigkpfdbbifcgaaV15
namespace Go.Proofs.Ytigkpfdbbifcgaa.Pj
open Go Go.RowKit

theorem step_append_any {P : Program} {ops : Array Oper} {o : Oper} {a : Act} {K : Act → World → Prop} {Q : Exit → Act → World → Prop} {E : Prop} (w : World) (hgd : o.guard = none) (s x : Operand) (t : TypeId)
    (ho : o.op = .call { callee := .builtin .append, args := #[s, x], argTypes := #[t, t] })
    (base : Nat) (e : TypeId) (i : TypeInfo) (z : Value) (size bytes : Nat) (ht : P.underlying t = some (.slice e)) (hi : P.info? e = some i) (hz : i.zero = some z)
    (hsize : i.size = size) (hby : i.bytes = bytes) (hzs : z.cells.size = size) (hsz : 0 < size)
    (v : Value) (n : Nat) (xs : List Value) (hs : a.eval s = v) (hown : w.ownsRow base e size v n xs)
    (ad : Option Addr) (m c : Nat) (news : List Value) (hx : a.eval x = .slice ad m c) (hl : news.length = m * size) (hnil : ad = none → m = 0) (hnews : ∀ p, ad = some p → ∀ j u, news[j]? = some u → w.cell? (p.add j) = some u) (h1 : ∀ u ∈ news, u.oneCell' = true)
    (h63 : n + m ≤ maxLen) (hbytes : (n + m) * bytes ≤ 140737488355328) (hbase : base ≤ w.heap.size)
    (h : ∀ v' w', w'.ownsRow base e size v' (n + m) (xs ++ news) → w.grownBy w' v.ownBlock → (v' = .slice none 0 0 ↔ v = .slice none 0 0 ∧ m = 0) → K (a.put o.dst v') w') :
    if Region.wanted o (yielded ops a.tmps) = true then Oper.wp P o a w K Q else E := by
  cases ad with
  | some p => exact step_append_own w hgd s x t ho base e i z size bytes ht hi hz hsize hby hzs hsz v n xs hs hown p m c news hx hl (hnews p rfl) h1 h63 hbytes hbase h
  | none =>
    have hm := hnil rfl
    subst hm
    have hn : news = [] := by simpa using hl
    subst hn
    have hw : Region.wanted o (yielded ops a.tmps) = true := by simp [Region.wanted, hgd]
    rw [if_pos hw]
    have hrun := run_append_nil (P := P) (w := w) base t o.type e i size ht hi v n xs hown c
    unfold Oper.wp
    simp [execOp, ho, resolve, invoke, builtin, hs, hx, hrun, Result.andThen]
    exact h v w (by simpa using hown) (World.grownBy.refl _ _) (by simp)
/-- A pin's box, as it lies, and what lay ahead. -/
def PB (wz : World) (bx : Nat) (xi xs : Int) (w : World) : Prop := w.cell? ⟨bx, 0, none⟩ = some (.int .i64 xi) ∧ w.cell? ⟨bx, 1, none⟩ = some (.int .i64 xs) ∧ Below wz.heap.size wz w
theorem PB.on {wz : World} {bx : Nat} {xi xs : Int} {w w' : World} (h : PB wz bx xi xs w) (n : Below w.heap.size w w') : PB wz bx xi xs w' :=
  ⟨keepC n h.1 (World.block_lt_of_cell? _ _ h.1), keepC n h.2.1 (World.block_lt_of_cell? _ _ h.2.1), h.2.2.trans (n.mono h.2.2.size)⟩
theorem PB.alloc {wz : World} {bx : Nat} {xi xs : Int} {w : World} (h : PB wz bx xi xs w) (o : Obj) : PB wz bx xi xs (w.alloc o) := h.on (aBelow _ _)

theorem PB.of {wz : World} {bx : Nat} {xi xs : Int} {w : World} (h0 : wz.cell? ⟨bx, 0, none⟩ = some (.int .i64 xi)) (h1 : wz.cell? ⟨bx, 1, none⟩ = some (.int .i64 xs)) (d : Below wz.heap.size wz w) : PB wz bx xi xs w :=
  ⟨keepC d h0 (World.block_lt_of_cell? _ _ h0), keepC d h1 (World.block_lt_of_cell? _ _ h1), d⟩
theorem own_le {base n : Nat} (h : base ≤ n) : ∀ k, (Value.slice (some ⟨n, 0, none⟩) 0 0).ownBlock = some k → base ≤ k := fun k hk => by
  have hk : some n = some k := hk
  injection hk with hk
  omega
theorem mid_app {wz W w5 : World} {bx n : Nat} {xi xs : Int} (h0 : wz.cell? ⟨bx, 0, none⟩ = some (.int .i64 xi)) (h1 : wz.cell? ⟨bx, 1, none⟩ = some (.int .i64 xs)) (hH : Below wz.heap.size wz W) (hn : wz.heap.size ≤ n) (hg : W.grownBy w5 (Value.slice (some ⟨n, 0, none⟩) 0 0).ownBlock) : PB wz bx xi xs w5 :=
  PB.of h0 h1 (hH.grown hg hH.size (own_le hn))
theorem mid_app2 {wz W w5 w6 : World} {bx n : Nat} {xi xs : Int} {v5 : Value} {X : List Value} (h0 : wz.cell? ⟨bx, 0, none⟩ = some (.int .i64 xi)) (h1 : wz.cell? ⟨bx, 1, none⟩ = some (.int .i64 xs)) (hH : Below wz.heap.size wz W) (ho : w5.ownsRow wz.heap.size 35 2 v5 n X) (hg : W.grownBy w6 v5.ownBlock) : PB wz bx xi xs w6 :=
  PB.of h0 h1 (hH.grown hg hH.size (fun k hk => (ho.lt k hk).1))
theorem new0P (w : World) (x : Pn) : ∀ j u, (pC x)[j]? = some u → (w.alloc (.cells #[.int .i64 x.id, .int .i64 x.st] 35)).cell? ((⟨w.heap.size, 0, none⟩ : Addr).add j) = some u := new1P w x
theorem newsB {wz w5 : World} {x : Pn} (hg : (((wz.alloc (.cells #[] 35)).alloc (.cells #[.int .i64 x.id, .int .i64 x.st] 35)).drew).grownBy w5 (some wz.heap.size)) : ∀ j u, (pC x)[j]? = some u → w5.cell? ((⟨wz.heap.size + 1, 0, none⟩ : Addr).add j) = some u := by
  intro j u hu
  have h1 := new0P (wz.alloc (.cells #[] 35)) x j u hu
  rw [show (wz.alloc (.cells #[] 35)).heap.size = wz.heap.size + 1 by simp] at h1
  rw [addr_add] at h1 ⊢
  rw [hg.cell_far _ (by simp) (by simp)]
  exact h1
theorem newsC {wz w5 : World} {x : Pn} (hg : (((wz.alloc (.cells #[.int .i64 x.id, .int .i64 x.st] 35)).alloc (.cells #[] 35)).drew).grownBy w5 (some (wz.heap.size + 1))) : ∀ j u, (pC x)[j]? = some u → w5.cell? ((⟨wz.heap.size, 0, none⟩ : Addr).add j) = some u := by
  intro j u hu
  have h1 := new0P wz x j u hu
  rw [addr_add] at h1 ⊢
  rw [hg.cell_far _ (by simp; omega) (by simp)]
  show ((wz.alloc _).alloc _).cell? _ = _
  rw [(aBelow (wz.alloc _) _).cell (p := ⟨wz.heap.size, 0 + j, none⟩) (by simp)]
  exact h1
theorem more_row {w : World} {base : Nat} {v : Value} {l : List Pn} {x : Pn} (h : w.ownsRow base 35 2 v (0 + l.length + 1) ([] ++ flatG pC l ++ pC x)) : PRow w v (l ++ [x]) :=
  ownG_row pC_len (ownG_next (by rw [Nat.zero_add, List.nil_append] at h; exact h))

set_option maxRecDepth 100000 in
set_option maxHeartbeats 4000000 in
theorem floors_walk (O : Own15) (HA0 : ∀ w : World, Calls Try.prog 7 #[] w fun e w' => e = .returned (.bool true) ∧ Below w.heap.size w w') (s : Int) (v1 : Value) (l : List Pn) (xi xs : Int) (w : World) (h1 : PRow w v1 l) (k1 : ∀ x ∈ l, okP x) (k2 : okP ⟨xi, xs⟩) (k3 : ok64 s) :
    Calls Try.prog 5 #[.int .i64 s, v1, .agg #[.int .i64 xi, .int .i64 xs]] w fun e w' => e = .returned (.bool true) ∧ Below w.heap.size w w' := by
  have HAl := Lib.hid HA0
  have H1 := Lib.hid h1
  obtain ⟨a1, c1, rfl, hc1, hl1⟩ := h1
  have dX := Lib.hid (aBelow w (.cells #[.int .i64 xi, .int .i64 xs] 35))
  by_cases hq : 100 < l.length
  · have i1 : (100 : Int) < (l.length : Int) := by omega
    clear hl1 H1
    go_enter Try.func5, Try.ntmps5
    go_wp2_with fail
    refine (HAl.out _).mono ?_
    rintro e w1 ⟨rfl, n1⟩
    go_wp2_with fail
    go_ret
    exact ⟨rfl, dX.out.trans (n1.mono dX.out.size)⟩
  · have i1 : ¬ (100 : Int) < (l.length : Int) := by omega
    obtain ⟨j0, hi, hz0, hz1, hz2⟩ := infoP
    have HI := Lib.hid (And.intro hi (And.intro hz0 (And.intro hz1 hz2)))
    clear hi hz0 hz1 hz2
    have HL1 := Lib.hid hl1
    have HF := Lib.hid (fun v W (hv : PRow W v l) => O.floor s v l W hv (by omega) k1 k3)
    have HG := Lib.hid (fun v W (hv : PRow W v (l ++ [⟨xi, xs⟩])) => O.floor s v (l ++ [⟨xi, xs⟩]) W hv (by simp; omega) (fun x hx => by
      rcases List.mem_append.1 hx with hx | hx
      · exact k1 x hx
      · simp at hx; subst hx; exact k2) k3)
    have HR := Lib.hid (fun W (d : Below w.heap.size w W) => refFloor_any s (.slice a1 l.length c1) l W (H1.out.on d) (by omega))
    obtain ⟨f1, f2⟩ := floor_more s l ⟨xi, xs⟩
    simp only at f2
    generalize floorP s (l ++ [⟨xi, xs⟩]) = B at *
    generalize floorP s l = A at *
    clear hl1 O k1 k2 k3
    go_enter Try.func5, Try.ntmps5
    go_wp2_with fail
    refine (HAl.out _).mono ?_
    rintro e w1 ⟨rfl, n1⟩
    have D1 := Lib.hid (dX.out.trans (n1.mono dX.out.size))
    have b0 : w1.cell? ⟨w.heap.size, 0, none⟩ = some (.int .i64 xi) := newC n1 (i := 0)
    have b1 : w1.cell? ⟨w.heap.size, 1, none⟩ = some (.int .i64 xs) := newC n1 (i := 1)
    clear n1 dX HAl
    go_wp2_with fail
    refine (HF.out _ _ (H1.out.on D1.out)).mono ?_
    rintro e wz ⟨rfl, n2⟩
    have hbx := World.block_lt_of_cell? _ _ b0
    have D2 := Lib.hid (D1.out.trans (n2.mono D1.out.size))
    have b0 := keepC n2 b0 hbx
    have b1 := keepC n2 b1 hbx
    have hS : PB wz w.heap.size xi xs wz.drew := ⟨b0, b1, (Below.refl _ _).drew⟩
    have HLz := Lib.hid (HL1.out.on D2.out)
    have HNL := Lib.hid (fun W (d : Below wz.heap.size wz W) => gat_news pC_len (by decide) (HLz.out.on d))
    have HG1 := Lib.hid (gat_none HLz.out)
    have HM := Lib.hid (fun W (d : Below wz.heap.size wz W) => World.ownsRow_made (base := wz.heap.size) (e := 35) (size := 2) W #[] 0 d.size (Nat.zero_le _) (by simp))
    have c0 := b0
    have c1' := b1
    clear n2 HF D1 b0 b1 hbx HL1 H1
    generalize hbxe : w.heap.size = bx at *
    have hP := hS
    unfold PB at hS
    have HMA : Hid (((wz.alloc (.cells #[] 35)).drew).ownsRow wz.heap.size 35 2 (.slice (some ⟨wz.heap.size, 0, none⟩) 0 0) 0 []) := HM.out wz (Below.refl _ _)
    have HMB : Hid ((((wz.alloc (.cells #[] 35)).alloc (.cells #[.int .i64 xi, .int .i64 xs] 35)).drew).ownsRow wz.heap.size 35 2 (.slice (some ⟨wz.heap.size, 0, none⟩) 0 0) 0 []) := (HM.out wz (Below.refl _ _)).alloc _
    have HMC : Hid ((((wz.alloc (.cells #[.int .i64 xi, .int .i64 xs] 35)).alloc (.cells #[] 35)).drew).ownsRow wz.heap.size 35 2 (.slice (some ⟨wz.heap.size + 1, 0, none⟩) 0 0) 0 []) := by
      have h := HM.out (wz.alloc (.cells #[.int .i64 xi, .int .i64 xs] 35)) (aBelow _ _)
      rw [show (wz.alloc (.cells #[.int .i64 xi, .int .i64 xs] 35)).heap.size = wz.heap.size + 1 by simp] at h
      exact h
    clear HM
    go_wp2_with fail
    go_region_held3 (fun w' => w'.cell? ⟨bx, 0, none⟩ = some (.int .i64 xi) ∧ w'.cell? ⟨bx, 1, none⟩ = some (.int .i64 xs) ∧ Below wz.heap.size wz w') (first | exact hS | exact PB.alloc hP _ | exact PB.alloc (PB.alloc hP _) _ | exact hP5 | exact PB.alloc hP5 _ | exact hP6 | exact hP7) (first
      | (have hq5 := H5; refine step_append_own _ (by rfl) _ _ 22 (by rfl) wz.heap.size 35 j0 (.agg #[.int .i64 0, .int .i64 0]) 2 16 Try.underlying22 HI.out.1 HI.out.2.1 HI.out.2.2.1 HI.out.2.2.2 rfl (by decide) v5 (0 + l.length) ([] ++ flatG pC l) (by rfl) (H5.out.1.alloc _) ⟨w5.heap.size, 0, none⟩ 1 1 (pC ⟨xi, xs⟩) (by rfl) (by rfl) (new0P w5 ⟨xi, xs⟩) (pC_one _) (by unfold maxLen; omega) (by omega) (by rename_i hH K1 K2; exact hH.2.2.size) ?_; intro v6 w6 hown6 hgrow6 hnil6; have hP6 := mid_app2 c0 c1' (by rename_i hH K1 K2; exact hH.2.2) H5.out.1 hgrow6; have HV6 := Lib.hid (more_row hown6); clear hown6 hgrow6 hnil6 hq5)
      | (have hq5 := H5; refine step_append_own _ (by rfl) _ _ 22 (by rfl) wz.heap.size 35 j0 (.agg #[.int .i64 0, .int .i64 0]) 2 16 Try.underlying22 HI.out.1 HI.out.2.1 HI.out.2.2.1 HI.out.2.2.2 rfl (by decide) v5 (0 + l.length) ([] ++ flatG pC l) (by rfl) H5.out.1 ⟨wz.heap.size + 1, 0, none⟩ 1 1 (pC ⟨xi, xs⟩) (by rfl) (by rfl) (newsB (x := ⟨xi, xs⟩) H5.out.2) (pC_one _) (by unfold maxLen; omega) (by omega) (by rename_i hH K1 K2; exact hH.2.2.size) ?_; intro v6 w6 hown6 hgrow6 hnil6; have hP6 := mid_app2 c0 c1' (by rename_i hH K1 K2; exact hH.2.2) H5.out.1 hgrow6; have HV6 := Lib.hid (more_row hown6); clear hown6 hgrow6 hnil6 hq5)
      | (have hq5 := H5; refine step_append_own _ (by rfl) _ _ 22 (by rfl) wz.heap.size 35 j0 (.agg #[.int .i64 0, .int .i64 0]) 2 16 Try.underlying22 HI.out.1 HI.out.2.1 HI.out.2.2.1 HI.out.2.2.2 rfl (by decide) v5 (0 + l.length) ([] ++ flatG pC l) (by rfl) H5.out.1 ⟨wz.heap.size, 0, none⟩ 1 1 (pC ⟨xi, xs⟩) (by rfl) (by rfl) (newsC (x := ⟨xi, xs⟩) H5.out.2) (pC_one _) (by unfold maxLen; omega) (by omega) (by rename_i hH K1 K2; exact hH.2.2.size) ?_; intro v6 w6 hown6 hgrow6 hnil6; have hP6 := mid_app2 c0 c1' (by rename_i hH K1 K2; exact hH.2.2) H5.out.1 hgrow6; have HV6 := Lib.hid (more_row hown6); clear hown6 hgrow6 hnil6 hq5)
      | (refine step_append_any _ (by rfl) _ _ 22 (by rfl) wz.heap.size 35 j0 (.agg #[.int .i64 0, .int .i64 0]) 2 16 Try.underlying22 HI.out.1 HI.out.2.1 HI.out.2.2.1 HI.out.2.2.2 rfl (by decide) (.slice (some ⟨wz.heap.size, 0, none⟩) 0 0) 0 [] (by rfl) HMA.out a1 l.length c1 (flatG pC l) (by rfl) (flatG_len pC_len l) HG1.out (HNL.out _ (by rename_i hH K1 K2; exact hH.2.2)) (flatG_cells1 pC_one l) (by unfold maxLen; omega) (by omega) (by rename_i hH K1 K2; exact hH.2.2.size) ?_; intro v5 w5 hown5 hgrow5 hnil5; have hP5 := mid_app c0 c1' (by rename_i hH K1 K2; exact hH.2.2) (by omega) hgrow5; have H5 := Lib.hid (And.intro hown5 hgrow5); clear hown5 hgrow5 hnil5)
      | (refine step_append_any _ (by rfl) _ _ 22 (by rfl) wz.heap.size 35 j0 (.agg #[.int .i64 0, .int .i64 0]) 2 16 Try.underlying22 HI.out.1 HI.out.2.1 HI.out.2.2.1 HI.out.2.2.2 rfl (by decide) (.slice (some ⟨wz.heap.size, 0, none⟩) 0 0) 0 [] (by rfl) HMB.out a1 l.length c1 (flatG pC l) (by rfl) (flatG_len pC_len l) HG1.out (HNL.out _ (by rename_i hH K1 K2; exact hH.2.2)) (flatG_cells1 pC_one l) (by unfold maxLen; omega) (by omega) (by rename_i hH K1 K2; exact hH.2.2.size) ?_; intro v5 w5 hown5 hgrow5 hnil5; have hP5 := mid_app c0 c1' (by rename_i hH K1 K2; exact hH.2.2) (by omega) hgrow5; have H5 := Lib.hid (And.intro hown5 hgrow5); clear hown5 hgrow5 hnil5)
      | (refine step_append_any _ (by rfl) _ _ 22 (by rfl) wz.heap.size 35 j0 (.agg #[.int .i64 0, .int .i64 0]) 2 16 Try.underlying22 HI.out.1 HI.out.2.1 HI.out.2.2.1 HI.out.2.2.2 rfl (by decide) (.slice (some ⟨wz.heap.size + 1, 0, none⟩) 0 0) 0 [] (by rfl) HMC.out a1 l.length c1 (flatG pC l) (by rfl) (flatG_len pC_len l) HG1.out (HNL.out _ (by rename_i hH K1 K2; exact hH.2.2)) (flatG_cells1 pC_one l) (by unfold maxLen; omega) (by omega) (by rename_i hH K1 K2; exact hH.2.2.size) ?_; intro v5 w5 hown5 hgrow5 hnil5; have hP5 := mid_app c0 c1' (by rename_i hH K1 K2; exact hH.2.2) (by omega) hgrow5; have H5 := Lib.hid (And.intro hown5 hgrow5); clear hown5 hgrow5 hnil5)
      | (go_at_call 18; refine (HG.out _ _ HV6.out).mono ?_; rintro e w7 ⟨rfl, n7⟩; have hP7 := PB.on hP6 n7)
      | fail)
    all_goals
      have D7 := Lib.hid (D2.out.trans (hP7.2.2.mono (hbxe ▸ D2.out.size)))
      obtain ⟨p0, p1, -⟩ := hP7
      rename_i hHd
      clear hHd HV6 H5 hP5 hP6 n7 hS hP HMA HMB HMC HNL HLz HG1 HG HI b0 b1 c0 c1' D2
      have qA : (A == A) = true := by simp
      go_wp2_with fail
      refine (HR.out _ D7.out).mono ?_
      rintro e w8 ⟨rfl, rfl⟩
      have D8 := Lib.hid (hbxe ▸ D7.out : Below w.heap.size w w8)
      clear HR D7
      by_cases hBA : B = A
      · have qB : (B == A) = true := by simp [hBA]
        have qL : decide (B ≤ A) = true := decide_eq_true f1
        clear hBA f2
        go_wp2_with fail
        go_ret
        exact ⟨rfl, D8.out⟩
      · have qB : (B == A) = false := by simp [hBA]
        have qX : (B == xs) = true := by rcases f2 with h | h; exact absurd h hBA; simp [h]
        have qL : decide (B ≤ A) = true := decide_eq_true f1
        clear hBA f2
        go_wp2_with fail
        go_ret
        exact ⟨rfl, D8.out⟩
end Go.Proofs.Ytigkpfdbbifcgaa.Pj
