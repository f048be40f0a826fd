/- Walks: the cells' functions that call one another and the sums' Add: whether one is empty, one sample's, two counts together. -/
import Derived.Test.YtnpnikgbjdeboaaM2
import Derived.Test.YtnpnikgbjdeboaaW1
import Derived.Lib.Hide
import Derived.KernelRfl
namespace Go.Proofs.Ytnpnikgbjdeboaa
open Go Go.RowKit Cl

theorem keepC {W w2 : World} {b off : Nat} {x : Option Value} (hb : Below W.heap.size W w2) (h : W.cell? ⟨b, off, none⟩ = x) (hB : b < W.heap.size) : w2.cell? ⟨b, off, none⟩ = x := by rw [hb.cell (p := ⟨b, off, none⟩) hB]; exact h
theorem keepF {W w2 : World} {b off : Nat} {x : Bool} (hb : Below W.heap.size W w2) (h : W.frozen? ⟨b, off, none⟩ = x) (hB : b < W.heap.size) : w2.frozen? ⟨b, off, none⟩ = x := by rw [hb.frozen (p := ⟨b, off, none⟩) hB]; exact h
theorem belowAlloc {W w2 : World} {o : Obj} (hb : Below (W.alloc o).heap.size (W.alloc o) w2) : Below W.heap.size W w2 := ((Below.refl _ _).alloc (Nat.le_refl _) _).trans (hb.mono (by simp))
theorem newC {W w2 : World} {c : Array Value} {t : TypeId} {i : Nat} (hb : Below (W.alloc (.cells c t)).heap.size (W.alloc (.cells c t)) w2) : w2.cell? ⟨W.heap.size, i, none⟩ = c[i]? :=
  keepC hb (by simp) (by simp)

set_option maxHeartbeats 400000 in
theorem of_world (n : Int) (w : World) :
    Calls Try.prog 20 #[.int .i64 n] w fun e w' => e = .returned (.agg #[.int .i64 n, .bool false]) ∧ w' = w.alloc (.cells #[.int .i64 n, .bool false] 23) := by
  go_enter Try.func20, Try.ntmps20
  go_wp2
  exact bodyPost_ret (v := .agg #[.int .i64 n, .bool false]) (by simp [results, Try.results20, go_sem]) rfl ⟨rfl, rfl⟩

set_option maxHeartbeats 400000 in
theorem empty_t (c : Cell) (w : World) (h : c.cnt < 1) :
    Calls Try.prog 12 #[.agg #[.int .i64 c.cnt, .int .i64 c.sn, .bool c.so, .int .i64 c.mn, .int .i64 c.mx]] w fun e w' => e = .returned (.bool true) ∧ w' = w.alloc (.cells #[.int .i64 c.cnt, .int .i64 c.sn, .bool c.so, .int .i64 c.mn, .int .i64 c.mx] 25) := by
  go_enter Try.func12, Try.ntmps12
  go_wp2
  go_ret
  exact ⟨rfl, rfl⟩

set_option maxHeartbeats 400000 in
theorem empty_f (c : Cell) (w : World) (h : 1 ≤ c.cnt) :
    Calls Try.prog 12 #[.agg #[.int .i64 c.cnt, .int .i64 c.sn, .bool c.so, .int .i64 c.mn, .int .i64 c.mx]] w fun e w' => e = .returned (.bool false) ∧ w' = w.alloc (.cells #[.int .i64 c.cnt, .int .i64 c.sn, .bool c.so, .int .i64 c.mn, .int .i64 c.mx] 25) := by
  have h2 : ¬ c.cnt < 1 := by omega
  clear h
  go_enter Try.func12, Try.ntmps12
  go_wp2
  go_ret
  exact ⟨rfl, rfl⟩

set_option maxHeartbeats 400000 in
theorem one_any (v : Int) (w : World) :
    Calls Try.prog 18 #[.int .i64 v] w fun e w' => e = .returned (.agg #[.int .i64 1, .int .i64 v, .bool false, .int .i64 v, .int .i64 v]) ∧ Below w.heap.size w w' := by
  go_enter Try.func18, Try.ntmps18
  go_wp2_with (go_at_call 20; refine (of_world _ _).mono ?_; rintro e w' ⟨rfl, rfl⟩)
  exact bodyPost_ret (v := .agg #[.int .i64 1, .int .i64 v, .bool false, .int .i64 v, .int .i64 v]) (by simp [results, Try.results18, go_sem]) rfl ⟨rfl, ((Below.refl _ _).alloc (Nat.le_refl _) _).alloc (by simp) _⟩

theorem field_N (n : Int) (o : Bool) : ∀ w : World, Sem.run Try.prog (Instr.field 23 (.agg #[.int .i64 n, .bool o]) 0) w = .ok (.int .i64 n) w := fun _ => by kernel_rfl

set_option maxHeartbeats 400000 in
theorem together_any (a b : Int) (w : World) (ha0 : ok64 a) (hb0 : ok64 b) (ha1 : 1 ≤ a) :
    Calls Try.prog 22 #[.int .i64 a, .int .i64 b] w fun e w' => e = .returned (.int .i64 (cnt2 a b)) ∧ Below w.heap.size w w' := by
  have h0 : (Sat.add a false b false).1 = cnt2 a b := by
    unfold ok64 at ha0 hb0
    unfold cnt2
    by_cases h : 0 < a ∧ 9223372036854775807 - a < b
    · rw [Sat.add_above _ _ h, if_pos (by omega)]
    · rw [Sat.add_plain _ _ h (by omega), if_neg (by omega)]
  have H := Lib.hid h0
  clear h0
  go_enter Try.func22, Try.ntmps22
  go_wp2_with (go_at_call 20; refine (of_world _ _).mono ?_; rintro e w' ⟨rfl, rfl⟩)
  refine (add_any _ _ _ _ _ ha0.1 ha0.2 hb0.1 hb0.2).mono ?_
  rintro e w1 ⟨rfl, n1⟩
  rw [H.out]
  generalize (Sat.add a false b false).2 = ov
  have hfd := field_N (cnt2 a b) ov
  go_wp2
  go_ret
  exact ⟨rfl, belowAlloc (belowAlloc n1)⟩
end Go.Proofs.Ytnpnikgbjdeboaa
