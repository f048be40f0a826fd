/- The program folds a sample into a cell. -/
import Derived.Test.YthiofbohllmfbaaC4
namespace Go.Proofs.Ythiofbohllmfbaa.Ce
open Go Go.RowKit Cl
open St Sat

set_option maxHeartbeats 400000 in
theorem one_any (v : Int) (w : World) :
    Calls Try.prog 67 #[.int .i64 v] w fun e w' => e = .returned (.agg #[.int .i64 1, .int .i64 v, .bool false, .int .i64 v, .int .i64 v]) ∧ Below w.heap.size w w' := by
  go_enter Try.func67, Try.ntmps67
  go_wp2_with (go_at_call 75; refine (of_world _ _).mono ?_; rintro e w' ⟨rfl, rfl⟩)
  exact bodyPost_ret (v := .agg #[.int .i64 1, .int .i64 v, .bool false, .int .i64 v, .int .i64 v]) (by simp [results, Try.results67, go_sem]) rfl ⟨rfl, ((Below.refl _ _).alloc (Nat.le_refl _) _).alloc (by simp) _⟩
theorem put_def (w : World) (b : Nat) (d : Cell) : put w b d = ((((w.setCell ⟨b, 0, none⟩ (.int .i64 d.cnt)).setCell ⟨b, 1, none⟩ (.int .i64 d.sn)).setCell ⟨b, 2, none⟩ (.bool d.so)).setCell ⟨b, 3, none⟩ (.int .i64 d.mn)).setCell ⟨b, 4, none⟩ (.int .i64 d.mx) := rfl
theorem behind_one (c : Cell) (v : Int) (w : World) (hc : okC c) (hv : okC (one v)) :
    Calls Try.prog 66 #[.agg #[.int .i64 c.cnt, .int .i64 c.sn, .bool c.so, .int .i64 c.mn, .int .i64 c.mx], .agg #[.int .i64 1, .int .i64 v, .bool false, .int .i64 v, .int .i64 v]] w fun e w' => e = .returned (.agg #[.int .i64 (fold c v).cnt, .int .i64 (fold c v).sn, .bool (fold c v).so, .int .i64 (fold c v).mn, .int .i64 (fold c v).mx]) ∧ Below w.heap.size w w' :=
  behind_any c (one v) w hc hv
theorem heldOne {ab : Nat} {c : Cell} {V W w3 : World} (h : W.cell? ⟨ab, 0, none⟩ = some (.int .i64 c.cnt) ∧ W.cell? ⟨ab, 1, none⟩ = some (.int .i64 c.sn) ∧ W.cell? ⟨ab, 2, none⟩ = some (.bool c.so) ∧ W.cell? ⟨ab, 3, none⟩ = some (.int .i64 c.mn) ∧ W.cell? ⟨ab, 4, none⟩ = some (.int .i64 c.mx) ∧ Below ab V W) (n : Below W.heap.size W w3) :
    w3.cell? ⟨ab, 0, none⟩ = some (.int .i64 c.cnt) ∧ w3.cell? ⟨ab, 1, none⟩ = some (.int .i64 c.sn) ∧ w3.cell? ⟨ab, 2, none⟩ = some (.bool c.so) ∧ w3.cell? ⟨ab, 3, none⟩ = some (.int .i64 c.mn) ∧ w3.cell? ⟨ab, 4, none⟩ = some (.int .i64 c.mx) ∧ Below ab V w3 := by
  obtain ⟨a0, a1, a2, a3, a4, d⟩ := h
  have za := World.block_lt_of_cell? _ _ a0
  exact ⟨keepC n a0 za, keepC n a1 za, keepC n a2 za, keepC n a3 za, keepC n a4 za, d.trans (n.mono (Nat.le_of_lt za))⟩
theorem heldOnePut {ab rb : Nat} {c : Cell} {V W : World} (d : Cell) (h : W.cell? ⟨ab, 0, none⟩ = some (.int .i64 c.cnt) ∧ W.cell? ⟨ab, 1, none⟩ = some (.int .i64 c.sn) ∧ W.cell? ⟨ab, 2, none⟩ = some (.bool c.so) ∧ W.cell? ⟨ab, 3, none⟩ = some (.int .i64 c.mn) ∧ W.cell? ⟨ab, 4, none⟩ = some (.int .i64 c.mx) ∧ Below ab V W) (n1 : rb ≠ ab) (n3 : ab ≤ rb) :
    (put W rb d).cell? ⟨ab, 0, none⟩ = some (.int .i64 c.cnt) ∧ (put W rb d).cell? ⟨ab, 1, none⟩ = some (.int .i64 c.sn) ∧ (put W rb d).cell? ⟨ab, 2, none⟩ = some (.bool c.so) ∧ (put W rb d).cell? ⟨ab, 3, none⟩ = some (.int .i64 c.mn) ∧ (put W rb d).cell? ⟨ab, 4, none⟩ = some (.int .i64 c.mx) ∧ Below ab V (put W rb d) := by
  obtain ⟨a0, a1, a2, a3, a4, e⟩ := h
  refine ⟨?_, ?_, ?_, ?_, ?_, put_below d e n3⟩ <;> (rw [cell_put d (by assumption)]; assumption)
set_option maxHeartbeats 400000 in
theorem fold_any (c : Cell) (v : Int) (w : World) (hc : okC c) (hv : ok64 v) :
    Calls Try.prog 53 #[.agg #[.int .i64 c.cnt, .int .i64 c.sn, .bool c.so, .int .i64 c.mn, .int .i64 c.mx], .int .i64 v] w fun e w' => e = .returned (.agg #[.int .i64 (fold c v).cnt, .int .i64 (fold c v).sn, .bool (fold c v).so, .int .i64 (fold c v).mn, .int .i64 (fold c v).mx]) ∧ Below w.heap.size w w' := by
  have H := Lib.hid (And.intro hc (ok_one hv))
  clear hc hv
  go_enter Try.func53, Try.ntmps53
  go_wp2_with fail
  have A := (Box.new w w.heap.size c rfl).on (aBelow _ (.cells #[.int .i64 zero.cnt, .int .i64 zero.sn, .bool zero.so, .int .i64 zero.mn, .int .i64 zero.mx] 52))
  have R := Box.new (w.alloc (.cells #[.int .i64 c.cnt, .int .i64 c.sn, .bool c.so, .int .i64 c.mn, .int .i64 c.mx] 52)) (w.heap.size + 1) zero (by simp)
  have F := Free.new (w.alloc (.cells #[.int .i64 c.cnt, .int .i64 c.sn, .bool c.so, .int .i64 c.mn, .int .i64 c.mx] 52)) (w.heap.size + 1) zero (by simp)
  have D := ((Below.refl w.heap.size w).alloc (Nat.le_refl _) (.cells #[.int .i64 c.cnt, .int .i64 c.sn, .bool c.so, .int .i64 c.mn, .int .i64 c.mx] 52)).alloc (by simp) (.cells #[.int .i64 zero.cnt, .int .i64 zero.sn, .bool zero.so, .int .i64 zero.mn, .int .i64 zero.mx] 52)
  simp only [zero] at *
  generalize (World.alloc _ (.cells #[.int .i64 0, .int .i64 0, .bool false, .int .i64 0, .int .i64 0] 52)) = W at *
  generalize hr : w.heap.size + 1 = rb at *
  generalize hab : w.heap.size = ab at *
  have n1 : rb ≠ ab := by omega
  have n3 : ab ≤ rb := by omega
  have HN := Lib.hid (And.intro n1 n3)
  have HB := Lib.hid hab
  have R0 : Box W.drew rb _ := R
  have F0 : Free W.drew rb := F
  have HR := Lib.hid (And.intro R0 F0)
  obtain ⟨a0, a1, a2, a3, a4⟩ := A
  clear R F R0 F0 hr hab n1 n3
  have S0 : W.drew.cell? ⟨ab, 0, none⟩ = some (.int .i64 c.cnt) ∧ W.drew.cell? ⟨ab, 1, none⟩ = some (.int .i64 c.sn) ∧ W.drew.cell? ⟨ab, 2, none⟩ = some (.bool c.so) ∧ W.drew.cell? ⟨ab, 3, none⟩ = some (.int .i64 c.mn) ∧ W.drew.cell? ⟨ab, 4, none⟩ = some (.int .i64 c.mx) ∧ Below ab w W.drew := ⟨a0, a1, a2, a3, a4, D.drew⟩
  clear a0 a1 a2 a3 a4 D
  refine wp_region_held_drew (S := fun w' => w'.cell? ⟨ab, 0, none⟩ = some (.int .i64 c.cnt) ∧ w'.cell? ⟨ab, 1, none⟩ = some (.int .i64 c.sn) ∧ w'.cell? ⟨ab, 2, none⟩ = some (.bool c.so) ∧ w'.cell? ⟨ab, 3, none⟩ = some (.int .i64 c.mn) ∧ w'.cell? ⟨ab, 4, none⟩ = some (.int .i64 c.mx) ∧ Below ab w w') (by kernel_rfl) S0 (fun hHeld => ?_)
  refine wpAnyH_take (i := 0) (oi := { dst := some 5, op := Op.load 52 (Operand.tmp 2), type := 52, pos := "cell.go:10", after := #[], guard := none }) (v := ?_) rfl (by kernel_rfl) (by kernel_rfl) (by kernel_rfl) (fun _ _ _ h => h) (Or.inl ⟨by rfl, ?_⟩) hHeld ?_
  rotate_left
  · intro w hSw
    (try dsimp only at hSw)
    go_simp
    (try with_reducible rfl)
  (try simp only [Act.put, List.setIfInBounds_toArray, List.set_cons_zero, List.set_cons_succ])
  refine wpAnyH_take (i := 1) (oi := { dst := some 6, op := Op.move (Operand.tmp 1), type := 2, pos := "cell.go:10", after := #[], guard := none }) (v := ?_) rfl (by kernel_rfl) (by kernel_rfl) (by kernel_rfl) (fun _ _ _ h => h) (Or.inl ⟨by rfl, ?_⟩) hHeld ?_
  rotate_left
  · intro w hSw
    (try dsimp only at hSw)
    go_simp
    (try with_reducible rfl)
  (try simp only [Act.put, List.setIfInBounds_toArray, List.set_cons_zero, List.set_cons_succ])
  refine wpAnyH_ready (rs := [2]) (by kernel_rfl) (by simp) ?_
  refine AllReadyH.cons (o := { dst := some 7, op := Op.call { callee := Callee.value (Operand.func 67), args := #[Operand.tmp 6], argTypes := #[2] }, type := 52, pos := "cell.go:10", after := #[{ on := 1, ground := Ground.data }], guard := none }) rfl (fun K hK => ?_) AllReadyH.nil
  go_simp
  refine (one_any _ _).mono ?_
  rintro e w3 ⟨rfl, m3⟩
  have S3 := heldOne S0 m3
  have R3 := Lib.hid (And.intro (HR.out.1.on m3) (HR.out.2.on HR.out.1.lt m3))
  clear S0 hHeld m3
  (try go_wp2_with fail)
  refine hK.out _ _ S3 (fun hHeld => ?_)
  clear hK K
  (try simp only [Act.put, List.setIfInBounds_toArray, List.set_cons_zero, List.set_cons_succ])
  refine wpAnyH_ready (rs := [3]) (by kernel_rfl) (by simp) ?_
  refine AllReadyH.cons (o := { dst := some 8, op := Op.call { callee := Callee.value (Operand.func 66), args := #[Operand.tmp 5, Operand.tmp 7], argTypes := #[52, 52] }, type := 52, pos := "cell.go:10", after := #[{ on := 0, ground := Ground.data }, { on := 2, ground := Ground.data }, { on := 2, ground := Ground.chain }], guard := none }) rfl (fun K hK => ?_) AllReadyH.nil
  go_simp
  refine (behind_one c v _ H.out.1 H.out.2).mono ?_
  rintro e w4 ⟨rfl, m4⟩
  have S4 := heldOne S3 m4
  have R4 := Lib.hid (And.intro (R3.out.1.on m4) (R3.out.2.on R3.out.1.lt m4))
  clear S3 hHeld m4
  (try go_wp2_with fail)
  refine hK.out _ _ S4 (fun hHeld => ?_)
  clear hK K
  (try simp only [Act.put, List.setIfInBounds_toArray, List.set_cons_zero, List.set_cons_succ])
  obtain ⟨r0, r1, r2, r3, r4⟩ := R4.out.1
  obtain ⟨f0, f1, f2, f3, f4⟩ := R4.out.2
  refine wpAnyH_ready (rs := [4]) (by kernel_rfl) (by simp) ?_
  refine AllReadyH.cons (o := { dst := none, op := Op.store 52 (Operand.tmp 4) (Operand.tmp 8), type := 0, pos := "cell.go:10", after := #[{ on := 3, ground := Ground.data }, { on := 3, ground := Ground.chain }, { on := 0, ground := Ground.phase }, { on := 1, ground := Ground.phase }, { on := 2, ground := Ground.phase }, { on := 3, ground := Ground.phase }], guard := none }) rfl (fun K hK => ?_) AllReadyH.nil
  go_simp
  clear r0 r1 r2 r3 r4 f0 f1 f2 f3 f4
  have e5 := R4.out.1.set (fold c v) R4.out.2
  have S5 := heldOnePut (fold c v) S4 HN.out.1 HN.out.2
  refine hK.out _ _ S5 (fun _ => ?_)
  clear hK K hHeld S4 HR R3 R4
  refine wpAnyH_done (by kernel_rfl) ?_ _
  obtain ⟨⟨x0, x1, x2, x3, x4⟩, _, _⟩ := e5
  have d5 := S5.2.2.2.2.2
  clear S5
  have hp := Lib.hid (put_def w4 rb (fold c v))
  rw [← hp.out]
  generalize put w4 rb (fold c v) = w5 at *
  go_wp2_with fail
  have HE := HB.out
  subst HE
  exact bodyPost_ret (v := .agg #[.int .i64 (fold c v).cnt, .int .i64 (fold c v).sn, .bool (fold c v).so, .int .i64 (fold c v).mn, .int .i64 (fold c v).mx]) (by simp [results, Try.results53, go_sem, x0, x1, x2, x3, x4]) rfl ⟨rfl, d5⟩

end Go.Proofs.Ythiofbohllmfbaa.Ce
