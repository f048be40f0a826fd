/- The program's own: pins put together, a copy of them: walks of the library's functions that it calls. -/
import Derived.Test.YtigkpfdbbifcgaaV15
import Derived.Lib.AppendZerosOnto
import Derived.Lib.SliceRun
import Derived.LoopN
namespace Go.Proofs.Ytigkpfdbbifcgaa.Pj
open Go Go.RowKit Go.Sort Go.Lib

set_option maxRecDepth 100000 in
set_option maxHeartbeats 1000000 in
theorem grow_none (w : World) : Calls Try.prog 32 #[.slice none 0 0, .int .i64 0] w fun e w' => e = .returned (.slice none 0 0) ∧ w' = w := by
  go_enter Try.func32, Try.ntmps32
  go_wp2_with fail
  go_ret
  exact ⟨rfl, rfl⟩
set_option maxRecDepth 100000 in
set_option maxHeartbeats 2000000 in
theorem grow_some (n : Nat) (h0 : 0 < n) (hn : n ≤ 1000000) (w : World) : Calls Try.prog 32 #[.slice none 0 0, .int .i64 n] w fun e w' => (∃ v, e = .returned v ∧ w'.ownsRow w.heap.size 35 2 v 0 []) ∧ Below w.heap.size w w' := by
  obtain ⟨j0, hi, hz0, hz1, hz2⟩ := infoP
  have hold : (Builtin.firstCells j0.size 0 (.slice none 0 0)).run Try.prog w.drew = .ok ([] : List Value).toArray w.drew := run_firstCells_none w.drew j0.size 0 0 0
  have hrz := fun ty => Lib.run_append_grow_zeros w 22 3 ty 35 j0 _ .i64 .i64 Try.underlying22 Try.underlying3 hi hz0 none 0 0 [] hold n h0 (by rw [hz1]; omega) (by omega) (by omega) (by rw [hz2]; omega) (growslice_fits (by omega) (by rw [hz2]; omega))
  rw [Nat.zero_add] at hrz
  have hG := grownCap_ge w n 0 35
  have hG2 := grownCap_le_maxLen w n 0 35 (by unfold maxLen; omega)
  have hG3 : Hid (n ≤ grownCap w n 0 35 ∧ grownCap w n 0 35 ≤ maxLen) := ⟨hG, hG2⟩
  have hsz : Hid ((([] : List Value).toArray ++ Builtin.zeroCells (Value.agg #[.int .i64 0, .int .i64 0]).cells n ++ Builtin.zeroCells (Value.agg #[.int .i64 0, .int .i64 0]).cells (grownCap w n 0 35 - n)).size = grownCap w n 0 35 * 2) := by
    show _ = _
    rw [Array.size_append, Array.size_append, size_zeroCells, size_zeroCells]
    show 0 + n * 2 + (grownCap w n 0 35 - n) * 2 = _
    omega
  generalize (([] : List Value).toArray ++ Builtin.zeroCells (Value.agg #[.int .i64 0, .int .i64 0]).cells n ++ Builtin.zeroCells (Value.agg #[.int .i64 0, .int .i64 0]).cells (grownCap w n 0 35 - n)) = AR at *
  generalize grownCap w n 0 35 = G at *
  have i1 : ¬ (n : Int) < 0 := by omega
  have i2 : (0 : Int) < (n : Int) := by omega
  have HM := Lib.hid (World.ownsRow_made (base := w.heap.size) (e := 35) (size := 2) w.drew AR G (Nat.le_refl _) hG2 hsz.out)
  clear hold hG hG2 hi hz0 hz1 hz2
  have HR := Lib.hid hrz
  clear hrz
  go_enter Try.func32, Try.ntmps32
  go_wp2_with (at_builtin; refine Lib.wpList_append_run _ rfl _ _ _ _ rfl _ _ rfl rfl _ _ (HR.out _) ?_)
  go_ret
  exact ⟨⟨_, rfl, HM.out⟩, (aBelow w.drew (.cells AR 35)).trans (Below.refl _ _) |> fun h => ⟨h.os, h.tape, h.output, h.size, h.block⟩⟩
theorem grow_any (n : Nat) (hn : n ≤ 1000000) (w : World) : Calls Try.prog 32 #[.slice none 0 0, .int .i64 n] w fun e w' => (∃ v, e = .returned v ∧ w'.ownsRow w.heap.size 35 2 v 0 []) ∧ Below w.heap.size w w' := by
  by_cases h0 : 0 < n
  · exact grow_some n h0 hn w
  · obtain rfl : n = 0 := by omega
    refine (grow_none w).mono ?_
    rintro e w' ⟨rfl, rfl⟩
    exact ⟨⟨_, rfl, World.ownsRow_nil _ _ _ _⟩, Below.refl _ _⟩

/-! ### two lists put together -/
set_option maxRecDepth 100000 in
set_option maxHeartbeats 4000000 in
theorem concat_two (v1 v2 : Value) (l m : List Pn) (b c : Nat) (w : World) (h1 : PRow w v1 l) (h2 : PRow w v2 m) (g1 : w.cell? ⟨b, 0, none⟩ = some v1) (g2 : w.cell? ⟨b, 1, none⟩ = some v2) (hn1 : l.length ≤ 1000) (hn2 : m.length ≤ 1000) :
    Calls Try.prog 25 #[.slice (some ⟨b, 0, none⟩) 2 c] w fun e w' => (∃ v', e = .returned v' ∧ PRow w' v' (l ++ m)) ∧ Below w.heap.size w w' := by
  obtain ⟨j0, hi, hz0, hz1, hz2⟩ := infoP
  have HI := Lib.hid (And.intro hi (And.intro hz0 (And.intro hz1 hz2)))
  clear hi hz0 hz1 hz2
  obtain ⟨a1, c1, rfl, k1, hl1⟩ := h1
  obtain ⟨a2, c2, rfl, k2, hl2⟩ := h2
  have hb : b < w.heap.size := World.block_lt_of_cell? _ _ g1
  have HN1 := Lib.hid (fun W (d : Below w.heap.size w W) => gat_news pC_len (by decide) (hl1.on d))
  have HN2 := Lib.hid (fun W (d : Below w.heap.size w W) => gat_news pC_len (by decide) (hl2.on d))
  have HG := Lib.hid (grow_any (l.length + m.length) (by omega) w)
  have HA1 := Lib.hid (gat_none hl1)
  have HA2 := Lib.hid (gat_none hl2)
  rw [Int.natCast_add] at HG
  clear hl1 hl2
  have i1 : ¬ (l.length : Int) < 0 := by omega
  have i2 : ¬ (l.length : Int) + (m.length : Int) < 0 := by omega
  have i3 : IntKind.i64.wrap ((l.length : Int) + (m.length : Int)) = (l.length : Int) + (m.length : Int) := by rw [IntKind.wrap_i64]; omega
  have i4 : IntKind.i64.wrap (l.length : Int) = (l.length : Int) := by rw [IntKind.wrap_i64]; omega
  go_enter Try.func25, Try.ntmps25
  go_wp2_with fail
  refine wp_loop_rounds 3 ?_
  rw [rounds_succ]
  go_wp2_with fail
  rw [rounds_succ]
  go_wp2_with fail
  rw [rounds_succ]
  go_wp2_with fail
  refine (HG.out).mono ?_
  rintro e w2 ⟨⟨V, rfl, own0⟩, d2⟩
  have G1 := keepC d2 g1 hb
  have G2 := keepC d2 g2 hb
  have HO := Lib.hid own0
  clear g1 HG own0
  go_wp2_with fail
  refine wp_loop_rounds 3 ?_
  rw [rounds_succ]
  go_wp2_with (first | (at_builtin; refine wpList_append_any rfl _ _ 22 rfl w.heap.size 35 j0 (.agg #[.int .i64 0, .int .i64 0]) 2 16 Try.underlying22 HI.out.1 HI.out.2.1 HI.out.2.2.1 HI.out.2.2.2 rfl (by decide) _ _ _ rfl HO.out a1 l.length c1 (flatG pC l) rfl (flatG_len pC_len l) HA1.out (HN1.out _ d2) (flatG_cells1 pC_one l) (by unfold maxLen; omega) (by omega) d2.size ?_; intro v4 w4 hown4 hgrow4 hnil4))
  have H4 := Lib.hid (show w4.ownsRow w.heap.size 35 2 v4 l.length (flatG pC l) from (by simpa using hown4))
  have d4 : Below w.heap.size w w4 := d2.grown hgrow4 d2.size (fun k hk => (HO.out.lt k hk).1)
  have G4 : w4.cell? ⟨b, 1, none⟩ = some (.slice a2 m.length c2) := keepC d4 g2 hb
  clear hown4 hgrow4 hnil4 HO G1 G2 HN1 HA1
  rw [rounds_succ]
  go_wp2_with (first | (at_builtin; refine wpList_append_any rfl _ _ 22 rfl w.heap.size 35 j0 (.agg #[.int .i64 0, .int .i64 0]) 2 16 Try.underlying22 HI.out.1 HI.out.2.1 HI.out.2.2.1 HI.out.2.2.2 rfl (by decide) _ _ _ rfl H4.out a2 m.length c2 (flatG pC m) rfl (flatG_len pC_len m) HA2.out (HN2.out _ d4) (flatG_cells1 pC_one m) (by unfold maxLen; omega) (by omega) d4.size ?_; intro v5 w5 hown5 hgrow5 hnil5))
  have H5 := Lib.hid (show w5.ownsRow w.heap.size 35 2 v5 (l ++ m).length (flatG pC (l ++ m)) from (by rw [flatG_append, List.length_append]; exact hown5))
  have d5 : Below w.heap.size w w5 := d4.grown hgrow5 d4.size (fun k hk => (H4.out.lt k hk).1)
  clear hown5 hgrow5 hnil5 H4 G4 HN2 HA2
  rw [rounds_succ]
  go_wp2_with fail
  go_ret
  exact ⟨⟨_, rfl, ownG_row pC_len H5.out⟩, d5⟩

/-! ### a copy -/
set_option maxRecDepth 100000 in
set_option maxHeartbeats 2000000 in
theorem clone_any (v : Value) (l : List Pn) (w : World) (h : PRow w v l) (hn : l.length ≤ 1000000) :
    Calls Try.prog 20 #[v] w fun e w' => (∃ v', e = .returned v' ∧ w'.ownsRow w.heap.size 35 2 v' l.length (flatG pC l)) ∧ Below w.heap.size w w' := by
  obtain ⟨jv, hi, hz0, hz1, hz2⟩ := infoP
  have HJ := Lib.hid (And.intro hi (And.intro hz0 (And.intro hz1 hz2)))
  clear hi hz0 hz1 hz2
  obtain ⟨a, c, rfl, hc, hl⟩ := h
  cases a with
  | none =>
    have hl0 : l = [] := List.length_eq_zero_iff.1 (gat_none hl rfl)
    subst hl0
    clear hl
    have qn : ∀ w : World, Sem.run Try.prog (binOp .eql 22 (.slice none 0 c) (.slice none 0 0)) w = .ok (.bool true) w := fun w => Lib.run_eql_slice_nil w _ _ none _ _ _ _ Try.underlying22
    go_enter Try.func20, Try.ntmps20
    go_wp2_with fail
    go_ret
    exact ⟨⟨_, rfl, ownG_nil _ _ _⟩, Below.refl _ _⟩
  | some a =>
    have dA := Lib.hid (aBelow w (.cells #[] 35))
    have HM0 := Lib.hid (World.ownsRow_made (base := w.heap.size) (e := 35) (size := 2) w #[] 0 (Nat.le_refl _) (Nat.zero_le _) (by simp))
    have HZ0 := Lib.hid (dA.out.size)
    have HN0 := Lib.hid (gat_news pC_len (by decide) (hl.on dA.out) a rfl)
    clear hl
    have qn : ∀ w : World, Sem.run Try.prog (binOp .eql 22 (.slice (some a) l.length c) (.slice none 0 0)) w = .ok (.bool false) w := fun w => Lib.run_eql_slice_nil w _ _ (some a) _ _ _ _ Try.underlying22
    go_enter Try.func20, Try.ntmps20
    go_wp2_with (first | (at_builtin; refine wpList_append_own _ rfl _ _ 22 rfl w.heap.size 35 jv (.agg #[.int .i64 0, .int .i64 0]) 2 16 Try.underlying22 HJ.out.1 HJ.out.2.1 HJ.out.2.2.1 HJ.out.2.2.2 rfl (by decide) _ _ _ rfl HM0.out a l.length c (flatG pC l) rfl (flatG_len pC_len l) HN0.out (flatG_cells1 pC_one l) (by unfold maxLen; omega) (by omega) HZ0.out ?_; intro v5 w3 hown5 hgrow5 hnil5))
    go_ret
    refine ⟨⟨_, rfl, by simpa using hown5⟩, (dA.out).grown hgrow5 HZ0.out (fun j hj => by cases hj; exact Nat.le_refl _)⟩
end Go.Proofs.Ytigkpfdbbifcgaa.Pj
