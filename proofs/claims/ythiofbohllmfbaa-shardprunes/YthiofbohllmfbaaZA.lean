/- How a place compares with an entry: walks of the program's own against, what it makes, and the library's functions that these call. -/
import Derived.Test.YthiofbohllmfbaaN1
import Derived.Test.YthiofbohllmfbaaS1
import Derived.Shelf.Abstract
namespace Go.Proofs.Ythiofbohllmfbaa.Sh
open Go Go.RowKit Go.Sort Go.Lib Cl Ce Ch

set_option maxRecDepth 100000 in
set_option maxHeartbeats 1000000 in
theorem isNaN_any (a : Int) (w : World) : Calls Try.prog 68 #[.int .i64 a] w fun e w' => e = .returned (.bool false) ∧ w' = w := by
  have h0 : (a == a) = true := by simp
  have h1 : (a != a) = false := by simp
  go_enter Try.func68, Try.ntmps68
  go_wp2_with fail
  go_ret
  exact ⟨by first | rfl | simp, rfl⟩
set_option maxRecDepth 100000 in
set_option maxHeartbeats 1000000 in
theorem compare_any (a b : Int) (w : World) : Calls Try.prog 58 #[.int .i64 a, .int .i64 b] w fun e w' => e = .returned (.int .i64 (cmpI a b)) ∧ w' = w := by
  by_cases h1 : a < b
  · rw [cmpI_lt h1]
    go_enter Try.func58, Try.ntmps58
    go_wp2_with (go_at_call 68; refine (isNaN_any _ _).mono ?_; rintro e w' ⟨rfl, rfl⟩)
    go_ret
    exact ⟨rfl, rfl⟩
  · by_cases h2 : b < a
    · rw [cmpI_gt h2]
      go_enter Try.func58, Try.ntmps58
      go_wp2_with (go_at_call 68; refine (isNaN_any _ _).mono ?_; rintro e w' ⟨rfl, rfl⟩)
      go_ret
      exact ⟨rfl, rfl⟩
    · rw [cmpI_eq (by omega)]
      go_enter Try.func58, Try.ntmps58
      go_wp2_with (go_at_call 68; refine (isNaN_any _ _).mono ?_; rintro e w' ⟨rfl, rfl⟩)
      go_ret
      exact ⟨rfl, rfl⟩
set_option maxRecDepth 100000 in
set_option maxHeartbeats 1000000 in
theorem cmpString_any (a b : ByteArray) (w : World) : Calls Try.prog 69 #[.string a, .string b] w fun e w' => e = .returned (.int .i64 (cmpK a b)) ∧ w' = w := by
  unfold cmpK
  go_enter Try.func69, Try.ntmps69
  go_wp2
  rw [run_callFunc_extern (f := 76) (fn := Try.f76) (by kernel_rfl) (by kernel_rfl) (by kernel_rfl) (by kernel_rfl) (e := Extern.BytealgCompare.compare) (by kernel_rfl), Lib.run_compareString]
  simp only [Result.andThen]
  rw [Oper.upon_value]
  go_wp2
  go_ret
  exact ⟨rfl, rfl⟩
set_option maxRecDepth 100000 in
set_option maxHeartbeats 1000000 in
theorem strCompare_any (a b : ByteArray) (w : World) : Calls Try.prog 59 #[.string a, .string b] w fun e w' => e = .returned (.int .i64 (cmpK a b)) ∧ w' = w := by
  go_enter Try.func59, Try.ntmps59
  go_wp2_with (go_at_call 69; refine (cmpString_any _ _ _).mono ?_; rintro e w' ⟨rfl, rfl⟩)
  go_ret
  exact ⟨rfl, rfl⟩
set_option maxRecDepth 100000 in
set_option maxHeartbeats 1000000 in
/-- cmp.Or of two numbers, which lie in one block. -/
theorem or_any (a b : Int) (bl c : Nat) (w : World) (h0 : w.cell? ⟨bl, 0, none⟩ = some (.int .i64 a)) (h1 : w.cell? ⟨bl, 1, none⟩ = some (.int .i64 b)) :
    Calls Try.prog 57 #[.slice (some ⟨bl, 0, none⟩) 2 c] w fun e w' => e = .returned (.int .i64 (if a = 0 then b else a)) ∧ w' = w := by
  by_cases ha : a = 0
  · subst ha
    rw [if_pos rfl]
    by_cases hb : b = 0
    · subst hb
      have q : ((0 : Int) == 0) = true := rfl
      go_enter Try.func57, Try.ntmps57
      go_wp2_with fail
      refine wp_loop_rounds 3 ?_
      rw [rounds_succ]
      go_wp2_with fail
      rw [rounds_succ]
      go_wp2_with fail
      rw [rounds_succ]
      go_wp2_with fail
      go_ret
      exact ⟨rfl, rfl⟩
    · have q : (b == 0) = false := by simp [hb]
      go_enter Try.func57, Try.ntmps57
      go_wp2_with fail
      refine wp_loop_rounds 3 ?_
      rw [rounds_succ]
      go_wp2_with fail
      rw [rounds_succ]
      go_wp2_with fail
      go_ret
      exact ⟨rfl, rfl⟩
  · have q : (a == 0) = false := by simp [ha]
    rw [if_neg ha]
    go_enter Try.func57, Try.ntmps57
    go_wp2_with fail
    refine wp_loop_rounds 3 ?_
    rw [rounds_succ]
    go_wp2_with fail
    go_ret
    exact ⟨rfl, rfl⟩

/-! ### what compares -/
/-- The function value f compares the place (wi, k) with an entry. -/
def AG (w : World) (f : Value) (wi : Int) (k : ByteArray) : Prop := ∃ B0 B1, f = .func (.func 56) #[] #[.pointer (some ⟨B0, 0, none⟩), .pointer (some ⟨B1, 0, none⟩)] ∧ w.cell? ⟨B0, 0, none⟩ = some (.int .i64 wi) ∧ w.cell? ⟨B1, 0, none⟩ = some (.string k)
theorem AG.on {w w1 : World} {f : Value} {wi : Int} {k : ByteArray} (h : AG w f wi k) (n : Below w.heap.size w w1) : AG w1 f wi k := by
  obtain ⟨B0, B1, hf, h0, h1⟩ := h
  exact ⟨B0, B1, hf, keepC n h0 (World.block_lt_of_cell? _ _ h0), keepC n h1 (World.block_lt_of_cell? _ _ h1)⟩
set_option maxRecDepth 100000 in
set_option maxHeartbeats 1000000 in
theorem against_any (wi : Int) (k : ByteArray) (w : World) : Calls Try.prog 33 #[.int .i64 wi, .string k] w fun e w' => (∃ f, e = .returned f ∧ AG w' f wi k) ∧ Below w.heap.size w w' := by
  have d0 := Lib.hid (aBelow2 w (.cells #[.int .i64 wi] 2) (.cells #[.string k] 9))
  go_enter Try.func33, Try.ntmps33
  go_wp2_with fail
  go_ret
  exact ⟨⟨_, rfl, w.heap.size, w.heap.size + 1, rfl, by simp, by simp⟩, d0.out⟩
theorem cell_kept1 {w : World} {a : Addr} {u : Value} (h : w.cell? a = some u) (o : Obj) : (w.alloc o).cell? a = some u := by
  rw [World.cell?_alloc_lt _ _ _ (World.block_lt_of_cell? w a h)]; exact h
def AgS (w : World) (B0 B1 eb : Nat) (wi : Int) (k : ByteArray) (x0 : Int) (x1 : ByteArray) (w' : World) : Prop :=
  w'.cell? ⟨B0, 0, none⟩ = some (.int .i64 wi) ∧ w'.cell? ⟨B1, 0, none⟩ = some (.string k) ∧ w'.cell? ⟨eb, 0, none⟩ = some (.int .i64 x0) ∧ w'.cell? ⟨eb, 1, none⟩ = some (.string x1) ∧ Below eb w w' ∧ eb ≤ w'.heap.size
theorem AgS.alloc {w : World} {B0 B1 eb : Nat} {wi : Int} {k : ByteArray} {x0 : Int} {x1 : ByteArray} {w' : World} (h : AgS w B0 B1 eb wi k x0 x1 w') (o : Obj) : AgS w B0 B1 eb wi k x0 x1 (w'.alloc o) := by
  obtain ⟨h0, h1, h2, h3, h4, h5⟩ := h
  exact ⟨cell_kept1 h0 o, cell_kept1 h1 o, cell_kept1 h2 o, cell_kept1 h3 o, h4.alloc h5 o, by simp; omega⟩
set_option maxRecDepth 100000 in
set_option maxHeartbeats 4000000 in
theorem against1_any (B0 B1 : Nat) (wi : Int) (k : ByteArray) (x0 : Int) (x1 : ByteArray) (sl : Value) (w : World) (h0 : w.cell? ⟨B0, 0, none⟩ = some (.int .i64 wi)) (h1 : w.cell? ⟨B1, 0, none⟩ = some (.string k)) :
    Calls Try.prog 56 #[.agg #[.int .i64 x0, .string x1, sl], .pointer (some ⟨B0, 0, none⟩), .pointer (some ⟨B1, 0, none⟩)] w fun e w' => e = .returned (.int .i64 (pcmp wi k x0 x1)) ∧ Below w.heap.size w w' := by
  have d0 := Lib.hid (aBelow w (.cells #[.int .i64 x0, .string x1, sl] 59))
  have HS : Hid (AgS w B0 B1 w.heap.size wi k x0 x1 (w.alloc (.cells #[.int .i64 x0, .string x1, sl] 59)).drew) := ⟨cell_kept1 h0 _, cell_kept1 h1 _, by simp, by simp, d0.out.drew, by simp⟩
  have HP := Lib.hid (show (if cmpI wi x0 = 0 then cmpK k x1 else cmpI wi x0) = pcmp wi k x0 x1 from rfl)
  go_enter Try.func56, Try.ntmps56
  go_wp2_with fail
  have hS := HS.out
  unfold AgS at hS
  clear h0 h1 HS
  generalize hx : w.heap.size = eb at *
  have HX := Lib.hid hx
  clear hx
  generalize w.alloc (.cells #[.int .i64 x0, .string x1, sl] 59) = wa at *
  go_region_held3 (fun w' => w'.cell? ⟨B0, 0, none⟩ = some (.int .i64 wi) ∧ w'.cell? ⟨B1, 0, none⟩ = some (.string k) ∧ w'.cell? ⟨eb, 0, none⟩ = some (.int .i64 x0) ∧ w'.cell? ⟨eb, 1, none⟩ = some (.string x1) ∧ Below eb w w' ∧ eb ≤ w'.heap.size) (first | exact hS | exact AgS.alloc hS _) (first
    | (go_at_call 58; refine (compare_any _ _ _).mono ?_; rintro e w1 ⟨rfl, rfl⟩)
    | (go_at_call 59; refine (strCompare_any _ _ _).mono ?_; rintro e w1 ⟨rfl, rfl⟩)
    | (go_at_call 57; refine (or_any (cmpI wi x0) (cmpK k x1) wa.heap.size 2 _ (by simp) (by simp)).mono ?_; rintro e w1 ⟨rfl, rfl⟩; rw [HP.out])
    | fail)
  all_goals (have dF := Lib.hid (show Below eb w (wa.alloc (.cells #[.int .i64 (cmpI wi x0), .int .i64 (cmpK k x1)] 3)).drew from (d0.out.alloc hS.2.2.2.2.2 _).drew))
  all_goals (rename_i hHeld; clear hS hHeld)
  all_goals (go_wp2_with fail)
  all_goals (have e := HX.out; subst e)
  all_goals (go_ret)
  all_goals (exact ⟨rfl, dF.out⟩)
end Go.Proofs.Ythiofbohllmfbaa.Sh
