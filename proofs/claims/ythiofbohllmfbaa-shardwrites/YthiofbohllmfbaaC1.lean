/- Carried over from earlier layers: walks and lemmas. -/
import Derived.Test.YthiofbohllmfbaaMC
import Derived.Test.YthiofbohllmfbaaB0
import Derived.Lib.Hide
import Derived.KernelRfl
import Derived.Lib.MinMax
import Derived.Deep.RegionHeld3
namespace Go.Proofs.Ythiofbohllmfbaa.Ce
open Go Go.RowKit Cl
open St Sat
theorem keepC {W w2 : World} {b off : Nat} {x : Option Value} (hb : Below W.heap.size W w2) (h : W.cell? ⟨b, off, none⟩ = x) (hB : b < W.heap.size) : w2.cell? ⟨b, off, none⟩ = x := by rw [hb.cell (p := ⟨b, off, none⟩) hB]; exact h
theorem keepF {W w2 : World} {b off : Nat} {x : Bool} (hb : Below W.heap.size W w2) (h : W.frozen? ⟨b, off, none⟩ = x) (hB : b < W.heap.size) : w2.frozen? ⟨b, off, none⟩ = x := by rw [hb.frozen (p := ⟨b, off, none⟩) hB]; exact h
theorem belowAlloc {W w2 : World} {o : Obj} (hb : Below (W.alloc o).heap.size (W.alloc o) w2) : Below W.heap.size W w2 := ((Below.refl _ _).alloc (Nat.le_refl _) _).trans (hb.mono (by simp))
set_option maxRecDepth 100000 in
set_option maxHeartbeats 400000 in
theorem of_world (n : Int) (w : World) :
    Calls Try.prog 75 #[.int .i64 n] w fun e w' => e = .returned (.agg #[.int .i64 n, .bool false]) ∧ w' = w.alloc (.cells #[.int .i64 n, .bool false] 50) := by
  go_enter Try.func75, Try.ntmps75
  go_wp2
  exact bodyPost_ret (v := .agg #[.int .i64 n, .bool false]) (by simp [results, Try.results75, go_sem]) rfl ⟨rfl, rfl⟩
set_option maxRecDepth 100000 in
set_option maxHeartbeats 400000 in
theorem empty_t (c : Cell) (w : World) (h : c.cnt < 1) :
    Calls Try.prog 36 #[.agg #[.int .i64 c.cnt, .int .i64 c.sn, .bool c.so, .int .i64 c.mn, .int .i64 c.mx]] w fun e w' => e = .returned (.bool true) ∧ w' = w.alloc (.cells #[.int .i64 c.cnt, .int .i64 c.sn, .bool c.so, .int .i64 c.mn, .int .i64 c.mx] 52) := by
  go_enter Try.func36, Try.ntmps36
  go_wp2
  go_ret
  exact ⟨rfl, rfl⟩
set_option maxRecDepth 100000 in
set_option maxHeartbeats 400000 in
theorem empty_f (c : Cell) (w : World) (h : 1 ≤ c.cnt) :
    Calls Try.prog 36 #[.agg #[.int .i64 c.cnt, .int .i64 c.sn, .bool c.so, .int .i64 c.mn, .int .i64 c.mx]] w fun e w' => e = .returned (.bool false) ∧ w' = w.alloc (.cells #[.int .i64 c.cnt, .int .i64 c.sn, .bool c.so, .int .i64 c.mn, .int .i64 c.mx] 52) := by
  have h2 : ¬ c.cnt < 1 := by omega
  clear h
  go_enter Try.func36, Try.ntmps36
  go_wp2
  go_ret
  exact ⟨rfl, rfl⟩
set_option maxRecDepth 100000 in
theorem field_N (n : Int) (o : Bool) : ∀ w : World, Sem.run Try.prog (Instr.field 50 (.agg #[.int .i64 n, .bool o]) 0) w = .ok (.int .i64 n) w := fun _ => by kernel_rfl
set_option maxRecDepth 100000 in
set_option maxHeartbeats 400000 in
theorem together_any (a b : Int) (w : World) (ha0 : ok64 a) (hb0 : ok64 b) (ha1 : 1 ≤ a) :
    Calls Try.prog 73 #[.int .i64 a, .int .i64 b] w fun e w' => e = .returned (.int .i64 (cnt2 a b)) ∧ Below w.heap.size w w' := by
  have h0 : (Sat.add a false b false).1 = cnt2 a b := by
    unfold ok64 at ha0 hb0
    unfold cnt2
    by_cases h : 0 < a ∧ 9223372036854775807 - a < b
    · rw [Sat.add_above _ _ h, if_pos (by omega)]
    · rw [Sat.add_plain _ _ h (by omega), if_neg (by omega)]
  have H := Lib.hid h0
  clear h0
  go_enter Try.func73, Try.ntmps73
  go_wp2_with (go_at_call 75; refine (of_world _ _).mono ?_; rintro e w' ⟨rfl, rfl⟩)
  refine (add_any _ _ _ _ _ ha0.1 ha0.2 hb0.1 hb0.2).mono ?_
  rintro e w1 ⟨rfl, n1⟩
  rw [H.out]
  generalize (Sat.add a false b false).2 = ov
  have hfd := field_N (cnt2 a b) ov
  go_wp2
  go_ret
  exact ⟨rfl, belowAlloc (belowAlloc n1)⟩
end Go.Proofs.Ythiofbohllmfbaa.Ce
namespace Go.Proofs.Ythiofbohllmfbaa.Ce
open Go Go.RowKit Cl
open St Sat
theorem below4 {w : World} (o1 o2 o3 o4 : Obj) : Below w.heap.size w ((((w.alloc o1).alloc o2).alloc o3).alloc o4) := (below3 _ _ _).alloc (by simp; omega) _
theorem below5 {w : World} (o1 o2 o3 o4 o5 : Obj) : Below w.heap.size w (((((w.alloc o1).alloc o2).alloc o3).alloc o4).alloc o5) := (below4 _ _ _ _).alloc (by simp; omega) _
set_option maxRecDepth 100000 in
set_option maxHeartbeats 400000 in
theorem behind_b (a b : Cell) (w : World) (h : b.cnt < 1) :
    Calls Try.prog 66 #[.agg #[.int .i64 a.cnt, .int .i64 a.sn, .bool a.so, .int .i64 a.mn, .int .i64 a.mx], .agg #[.int .i64 b.cnt, .int .i64 b.sn, .bool b.so, .int .i64 b.mn, .int .i64 b.mx]] w fun e w' => e = .returned (.agg #[.int .i64 a.cnt, .int .i64 a.sn, .bool a.so, .int .i64 a.mn, .int .i64 a.mx]) ∧ Below w.heap.size w w' := by
  go_enter Try.func66, Try.ntmps66
  go_wp2_with (go_at_call 36; refine (empty_t _ _ h).mono ?_; rintro e w' ⟨rfl, rfl⟩)
  exact bodyPost_ret (v := .agg #[.int .i64 a.cnt, .int .i64 a.sn, .bool a.so, .int .i64 a.mn, .int .i64 a.mx]) (by simp [results, Try.results66, go_sem]) rfl ⟨rfl, below4 _ _ _ _⟩
set_option maxRecDepth 100000 in
set_option maxHeartbeats 400000 in
theorem behind_a (a b : Cell) (w : World) (h : 1 ≤ b.cnt) (h' : a.cnt < 1) :
    Calls Try.prog 66 #[.agg #[.int .i64 a.cnt, .int .i64 a.sn, .bool a.so, .int .i64 a.mn, .int .i64 a.mx], .agg #[.int .i64 b.cnt, .int .i64 b.sn, .bool b.so, .int .i64 b.mn, .int .i64 b.mx]] w fun e w' => e = .returned (.agg #[.int .i64 b.cnt, .int .i64 b.sn, .bool b.so, .int .i64 b.mn, .int .i64 b.mx]) ∧ Below w.heap.size w w' := by
  have H := Lib.hid h
  clear h
  go_enter Try.func66, Try.ntmps66
  go_wp2_with fail
  refine (empty_f b _ H.out).mono ?_
  rintro e w' ⟨rfl, rfl⟩
  go_wp2_with fail
  refine (empty_t a _ h').mono ?_
  rintro e w' ⟨rfl, rfl⟩
  go_wp2_with fail
  exact bodyPost_ret (v := .agg #[.int .i64 b.cnt, .int .i64 b.sn, .bool b.so, .int .i64 b.mn, .int .i64 b.mx]) (by simp [results, Try.results66, go_sem]) rfl ⟨rfl, below5 _ _ _ _ _⟩
/-- Five cells of a box. -/
def Box (w : World) (b : Nat) (c : Cell) : Prop :=
  w.cell? ⟨b, 0, none⟩ = some (.int .i64 c.cnt) ∧ w.cell? ⟨b, 1, none⟩ = some (.int .i64 c.sn) ∧ w.cell? ⟨b, 2, none⟩ = some (.bool c.so) ∧ w.cell? ⟨b, 3, none⟩ = some (.int .i64 c.mn) ∧ w.cell? ⟨b, 4, none⟩ = some (.int .i64 c.mx)
/-- Five cells of a box that may be written. -/
def Free (w : World) (b : Nat) : Prop :=
  w.frozen? ⟨b, 0, none⟩ = false ∧ w.frozen? ⟨b, 1, none⟩ = false ∧ w.frozen? ⟨b, 2, none⟩ = false ∧ w.frozen? ⟨b, 3, none⟩ = false ∧ w.frozen? ⟨b, 4, none⟩ = false
theorem Box.lt {w : World} {b : Nat} {c : Cell} (h : Box w b c) : b < w.heap.size := World.block_lt_of_cell? _ _ h.1
theorem Box.on {W w : World} {b : Nat} {c : Cell} (h : Box W b c) (n : Below W.heap.size W w) : Box w b c :=
  have z := h.lt
  ⟨keepC n h.1 z, keepC n h.2.1 z, keepC n h.2.2.1 z, keepC n h.2.2.2.1 z, keepC n h.2.2.2.2 z⟩
theorem Free.on {W w : World} {b : Nat} (h : Free W b) (hz : b < W.heap.size) (n : Below W.heap.size W w) : Free w b :=
  ⟨keepF n h.1 hz, keepF n h.2.1 hz, keepF n h.2.2.1 hz, keepF n h.2.2.2.1 hz, keepF n h.2.2.2.2 hz⟩
theorem Box.new (W : World) (n : Nat) (c : Cell) (hn : n = W.heap.size) : Box (W.alloc (.cells #[.int .i64 c.cnt, .int .i64 c.sn, .bool c.so, .int .i64 c.mn, .int .i64 c.mx] 52)) n c := by subst hn; simp [Box]
theorem Free.new (W : World) (n : Nat) (c : Cell) (hn : n = W.heap.size) : Free (W.alloc (.cells #[.int .i64 c.cnt, .int .i64 c.sn, .bool c.so, .int .i64 c.mn, .int .i64 c.mx] 52)) n := by subst hn; simp [Free, go_sem]
/-- A cell is stored into a box. -/
def put (w : World) (b : Nat) (d : Cell) : World :=
  ((((w.setCell ⟨b, 0, none⟩ (.int .i64 d.cnt)).setCell ⟨b, 1, none⟩ (.int .i64 d.sn)).setCell ⟨b, 2, none⟩ (.bool d.so)).setCell ⟨b, 3, none⟩ (.int .i64 d.mn)).setCell ⟨b, 4, none⟩ (.int .i64 d.mx)
theorem Box.set {w : World} {b : Nat} {c : Cell} (h : Box w b c) (d : Cell) (f : Free w b) : Box (put w b d) b d ∧ Free (put w b d) b ∧ (put w b d).heap.size = w.heap.size := by
  obtain ⟨h0, h1, h2, h3, h4⟩ := h
  obtain ⟨f0, f1, f2, f3, f4⟩ := f
  refine ⟨⟨?_, ?_, ?_, ?_, ?_⟩, ⟨?_, ?_, ?_, ?_, ?_⟩, ?_⟩ <;> simp [put, go_sem, h0, h1, h2, h3, h4, f0, f1, f2, f3, f4]
theorem put_below {w W : World} {B b : Nat} (d : Cell) (h : Below B w W) (hb : B ≤ b) : Below B w (put W b d) := by
  unfold put
  exact ((((h.setCell hb _).setCell hb _).setCell hb _).setCell hb _).setCell hb _
theorem aBelow (W : World) (o : Obj) : Below W.heap.size W (W.alloc o) := (Below.refl _ _).alloc (Nat.le_refl _) _
theorem heldTwo {ab bb : Nat} {a b : Cell} {V W w3 : World}
    (h : W.cell? ⟨ab, 0, none⟩ = some (.int .i64 a.cnt) ∧ W.cell? ⟨ab, 1, none⟩ = some (.int .i64 a.sn) ∧ W.cell? ⟨ab, 2, none⟩ = some (.bool a.so) ∧ W.cell? ⟨ab, 3, none⟩ = some (.int .i64 a.mn) ∧ W.cell? ⟨ab, 4, none⟩ = some (.int .i64 a.mx) ∧ W.cell? ⟨bb, 0, none⟩ = some (.int .i64 b.cnt) ∧ W.cell? ⟨bb, 1, none⟩ = some (.int .i64 b.sn) ∧ W.cell? ⟨bb, 2, none⟩ = some (.bool b.so) ∧ W.cell? ⟨bb, 3, none⟩ = some (.int .i64 b.mn) ∧ W.cell? ⟨bb, 4, none⟩ = some (.int .i64 b.mx) ∧ Below ab V W)
    (n : Below W.heap.size W w3) :
    w3.cell? ⟨ab, 0, none⟩ = some (.int .i64 a.cnt) ∧ w3.cell? ⟨ab, 1, none⟩ = some (.int .i64 a.sn) ∧ w3.cell? ⟨ab, 2, none⟩ = some (.bool a.so) ∧ w3.cell? ⟨ab, 3, none⟩ = some (.int .i64 a.mn) ∧ w3.cell? ⟨ab, 4, none⟩ = some (.int .i64 a.mx) ∧ w3.cell? ⟨bb, 0, none⟩ = some (.int .i64 b.cnt) ∧ w3.cell? ⟨bb, 1, none⟩ = some (.int .i64 b.sn) ∧ w3.cell? ⟨bb, 2, none⟩ = some (.bool b.so) ∧ w3.cell? ⟨bb, 3, none⟩ = some (.int .i64 b.mn) ∧ w3.cell? ⟨bb, 4, none⟩ = some (.int .i64 b.mx) ∧ Below ab V w3 := by
  obtain ⟨a0, a1, a2, a3, a4, b0, b1, b2, b3, b4, d⟩ := h
  have za := World.block_lt_of_cell? _ _ a0
  have zb := World.block_lt_of_cell? _ _ b0
  exact ⟨keepC n a0 za, keepC n a1 za, keepC n a2 za, keepC n a3 za, keepC n a4 za, keepC n b0 zb, keepC n b1 zb, keepC n b2 zb, keepC n b3 zb, keepC n b4 zb, d.trans (n.mono (Nat.le_of_lt za))⟩
theorem cell_put {W : World} {rb b i : Nat} (d : Cell) (h : rb ≠ b) : (put W rb d).cell? ⟨b, i, none⟩ = W.cell? ⟨b, i, none⟩ := by
  unfold put
  simp [go_sem]
theorem heldPut {ab bb rb : Nat} {a b : Cell} {V W : World} (d : Cell)
    (h : W.cell? ⟨ab, 0, none⟩ = some (.int .i64 a.cnt) ∧ W.cell? ⟨ab, 1, none⟩ = some (.int .i64 a.sn) ∧ W.cell? ⟨ab, 2, none⟩ = some (.bool a.so) ∧ W.cell? ⟨ab, 3, none⟩ = some (.int .i64 a.mn) ∧ W.cell? ⟨ab, 4, none⟩ = some (.int .i64 a.mx) ∧ W.cell? ⟨bb, 0, none⟩ = some (.int .i64 b.cnt) ∧ W.cell? ⟨bb, 1, none⟩ = some (.int .i64 b.sn) ∧ W.cell? ⟨bb, 2, none⟩ = some (.bool b.so) ∧ W.cell? ⟨bb, 3, none⟩ = some (.int .i64 b.mn) ∧ W.cell? ⟨bb, 4, none⟩ = some (.int .i64 b.mx) ∧ Below ab V W) (n1 : rb ≠ ab) (n2 : rb ≠ bb) (n3 : ab ≤ rb) :
    (put W rb d).cell? ⟨ab, 0, none⟩ = some (.int .i64 a.cnt) ∧ (put W rb d).cell? ⟨ab, 1, none⟩ = some (.int .i64 a.sn) ∧ (put W rb d).cell? ⟨ab, 2, none⟩ = some (.bool a.so) ∧ (put W rb d).cell? ⟨ab, 3, none⟩ = some (.int .i64 a.mn) ∧ (put W rb d).cell? ⟨ab, 4, none⟩ = some (.int .i64 a.mx) ∧ (put W rb d).cell? ⟨bb, 0, none⟩ = some (.int .i64 b.cnt) ∧ (put W rb d).cell? ⟨bb, 1, none⟩ = some (.int .i64 b.sn) ∧ (put W rb d).cell? ⟨bb, 2, none⟩ = some (.bool b.so) ∧ (put W rb d).cell? ⟨bb, 3, none⟩ = some (.int .i64 b.mn) ∧ (put W rb d).cell? ⟨bb, 4, none⟩ = some (.int .i64 b.mx) ∧ Below ab V (put W rb d) := by
  obtain ⟨a0, a1, a2, a3, a4, b0, b1, b2, b3, b4, e⟩ := h
  refine ⟨?_, ?_, ?_, ?_, ?_, ?_, ?_, ?_, ?_, ?_, put_below d e n3⟩ <;> (rw [cell_put d (by assumption)]; assumption)
set_option maxRecDepth 100000 in
set_option maxHeartbeats 1000000 in
theorem behind_ab (a b : Cell) (w : World) (ha : okC a) (hb : okC b) (h : 1 ≤ b.cnt) (h' : 1 ≤ a.cnt) :
    Calls Try.prog 66 #[.agg #[.int .i64 a.cnt, .int .i64 a.sn, .bool a.so, .int .i64 a.mn, .int .i64 a.mx], .agg #[.int .i64 b.cnt, .int .i64 b.sn, .bool b.so, .int .i64 b.mn, .int .i64 b.mx]] w fun e w' => e = .returned (.agg #[.int .i64 (both a b).cnt, .int .i64 (both a b).sn, .bool (both a b).so, .int .i64 (both a b).mn, .int .i64 (both a b).mx]) ∧ Below w.heap.size w w' := by
  have H := Lib.hid (And.intro h (And.intro h' (And.intro ha hb)))
  clear h h' ha hb
  go_enter Try.func66, Try.ntmps66
  go_wp2_with fail
  refine (empty_f b _ H.out.1).mono ?_
  rintro e w' ⟨rfl, rfl⟩
  go_wp2_with fail
  refine (empty_f a _ H.out.2.1).mono ?_
  rintro e w' ⟨rfl, rfl⟩
  go_wp2_with fail
  have A0 := (((Box.new w w.heap.size a rfl).on (aBelow _ (.cells #[.int .i64 b.cnt, .int .i64 b.sn, .bool b.so, .int .i64 b.mn, .int .i64 b.mx] 52))).on (aBelow _ (.cells #[.int .i64 zero.cnt, .int .i64 zero.sn, .bool zero.so, .int .i64 zero.mn, .int .i64 zero.mx] 52)))
  have B0 := ((Box.new (w.alloc (.cells #[.int .i64 a.cnt, .int .i64 a.sn, .bool a.so, .int .i64 a.mn, .int .i64 a.mx] 52)) (w.heap.size + 1) b (by simp)).on (aBelow _ (.cells #[.int .i64 zero.cnt, .int .i64 zero.sn, .bool zero.so, .int .i64 zero.mn, .int .i64 zero.mx] 52)))
  have R0 := (Box.new ((w.alloc (.cells #[.int .i64 a.cnt, .int .i64 a.sn, .bool a.so, .int .i64 a.mn, .int .i64 a.mx] 52)).alloc (.cells #[.int .i64 b.cnt, .int .i64 b.sn, .bool b.so, .int .i64 b.mn, .int .i64 b.mx] 52)) (w.heap.size + 1 + 1) zero (by simp))
  have F0 := (Free.new ((w.alloc (.cells #[.int .i64 a.cnt, .int .i64 a.sn, .bool a.so, .int .i64 a.mn, .int .i64 a.mx] 52)).alloc (.cells #[.int .i64 b.cnt, .int .i64 b.sn, .bool b.so, .int .i64 b.mn, .int .i64 b.mx] 52)) (w.heap.size + 1 + 1) zero (by simp))
  have A := (A0.on (aBelow _ (.cells #[.int .i64 b.cnt, .int .i64 b.sn, .bool b.so, .int .i64 b.mn, .int .i64 b.mx] 52))).on (aBelow _ (.cells #[.int .i64 a.cnt, .int .i64 a.sn, .bool a.so, .int .i64 a.mn, .int .i64 a.mx] 52))
  have B := (B0.on (aBelow _ (.cells #[.int .i64 b.cnt, .int .i64 b.sn, .bool b.so, .int .i64 b.mn, .int .i64 b.mx] 52))).on (aBelow _ (.cells #[.int .i64 a.cnt, .int .i64 a.sn, .bool a.so, .int .i64 a.mn, .int .i64 a.mx] 52))
  have R := (R0.on (aBelow _ (.cells #[.int .i64 b.cnt, .int .i64 b.sn, .bool b.so, .int .i64 b.mn, .int .i64 b.mx] 52))).on (aBelow _ (.cells #[.int .i64 a.cnt, .int .i64 a.sn, .bool a.so, .int .i64 a.mn, .int .i64 a.mx] 52))
  have F := (F0.on R0.lt (aBelow _ (.cells #[.int .i64 b.cnt, .int .i64 b.sn, .bool b.so, .int .i64 b.mn, .int .i64 b.mx] 52))).on (R0.on (aBelow _ (.cells #[.int .i64 b.cnt, .int .i64 b.sn, .bool b.so, .int .i64 b.mn, .int .i64 b.mx] 52))).lt (aBelow _ (.cells #[.int .i64 a.cnt, .int .i64 a.sn, .bool a.so, .int .i64 a.mn, .int .i64 a.mx] 52))
  have D := below5 (w := w) (.cells #[.int .i64 a.cnt, .int .i64 a.sn, .bool a.so, .int .i64 a.mn, .int .i64 a.mx] 52) (.cells #[.int .i64 b.cnt, .int .i64 b.sn, .bool b.so, .int .i64 b.mn, .int .i64 b.mx] 52) (.cells #[.int .i64 zero.cnt, .int .i64 zero.sn, .bool zero.so, .int .i64 zero.mn, .int .i64 zero.mx] 52) (.cells #[.int .i64 b.cnt, .int .i64 b.sn, .bool b.so, .int .i64 b.mn, .int .i64 b.mx] 52) (.cells #[.int .i64 a.cnt, .int .i64 a.sn, .bool a.so, .int .i64 a.mn, .int .i64 a.mx] 52)
  clear A0 B0 R0 F0
  simp only [zero] at *
  generalize (World.alloc _ (.cells #[.int .i64 a.cnt, .int .i64 a.sn, .bool a.so, .int .i64 a.mn, .int .i64 a.mx] 52)) = W at *
  generalize hr : w.heap.size + 1 + 1 = rb at *
  generalize hbb : w.heap.size + 1 = bb at *
  generalize hab : w.heap.size = ab at *
  have n1 : rb ≠ ab := by omega
  have n2 : rb ≠ bb := by omega
  have n3 : ab ≤ rb := by omega
  have HN := Lib.hid n3
  have HB := Lib.hid hab
  have R0 : Box W.drew rb _ := R
  have F0 : Free W.drew rb := F
  have HR := Lib.hid (And.intro R0 F0)
  obtain ⟨a0, a1, a2, a3, a4⟩ := A
  obtain ⟨b0, b1, b2, b3, b4⟩ := B
  clear R F R0 F0 hr hbb hab n3
  have S0 : W.drew.cell? ⟨ab, 0, none⟩ = some (.int .i64 a.cnt) ∧ W.drew.cell? ⟨ab, 1, none⟩ = some (.int .i64 a.sn) ∧ W.drew.cell? ⟨ab, 2, none⟩ = some (.bool a.so) ∧ W.drew.cell? ⟨ab, 3, none⟩ = some (.int .i64 a.mn) ∧ W.drew.cell? ⟨ab, 4, none⟩ = some (.int .i64 a.mx) ∧ W.drew.cell? ⟨bb, 0, none⟩ = some (.int .i64 b.cnt) ∧ W.drew.cell? ⟨bb, 1, none⟩ = some (.int .i64 b.sn) ∧ W.drew.cell? ⟨bb, 2, none⟩ = some (.bool b.so) ∧ W.drew.cell? ⟨bb, 3, none⟩ = some (.int .i64 b.mn) ∧ W.drew.cell? ⟨bb, 4, none⟩ = some (.int .i64 b.mx) ∧ Below ab w W.drew := ⟨a0, a1, a2, a3, a4, b0, b1, b2, b3, b4, D.drew⟩
  clear a0 a1 a2 a3 a4 b0 b1 b2 b3 b4 D
  refine wp_region_held_drew (S := fun w' => w'.cell? ⟨ab, 0, none⟩ = some (.int .i64 a.cnt) ∧ w'.cell? ⟨ab, 1, none⟩ = some (.int .i64 a.sn) ∧ w'.cell? ⟨ab, 2, none⟩ = some (.bool a.so) ∧ w'.cell? ⟨ab, 3, none⟩ = some (.int .i64 a.mn) ∧ w'.cell? ⟨ab, 4, none⟩ = some (.int .i64 a.mx) ∧ w'.cell? ⟨bb, 0, none⟩ = some (.int .i64 b.cnt) ∧ w'.cell? ⟨bb, 1, none⟩ = some (.int .i64 b.sn) ∧ w'.cell? ⟨bb, 2, none⟩ = some (.bool b.so) ∧ w'.cell? ⟨bb, 3, none⟩ = some (.int .i64 b.mn) ∧ w'.cell? ⟨bb, 4, none⟩ = some (.int .i64 b.mx) ∧ Below ab w w') (by kernel_rfl) S0 (fun hHeld => ?_)
  refine wpAnyH_take (i := 0) (oi := { dst := some 13, op := Op.fieldAddr 52 (Operand.tmp 2) 0, type := 0, pos := "cell.go:25", after := #[], guard := none }) (v := ?_) rfl (by kernel_rfl) (by kernel_rfl) (by kernel_rfl) (fun _ _ _ h => h) (Or.inl ⟨by rfl, ?_⟩) (by assumption) ?_
  rotate_left
  · intro w hSw
    (try dsimp only at hSw)
    go_simp
    (try with_reducible rfl)
  (try simp only [Act.put, List.setIfInBounds_toArray, List.set_cons_zero, List.set_cons_succ])
  refine wpAnyH_take (i := 1) (oi := { dst := some 14, op := Op.load 2 (Operand.tmp 13), type := 2, pos := "cell.go:25", after := #[{ on := 0, ground := Ground.data }], guard := none }) (v := ?_) rfl (by kernel_rfl) (by kernel_rfl) (by kernel_rfl) (fun _ _ _ h => h) (Or.inl ⟨by rfl, ?_⟩) (by assumption) ?_
  rotate_left
  · intro w hSw
    (try dsimp only at hSw)
    go_simp
    (try with_reducible rfl)
  (try simp only [Act.put, List.setIfInBounds_toArray, List.set_cons_zero, List.set_cons_succ])
  refine wpAnyH_take (i := 2) (oi := { dst := some 15, op := Op.fieldAddr 52 (Operand.tmp 3) 0, type := 0, pos := "cell.go:25", after := #[], guard := none }) (v := ?_) rfl (by kernel_rfl) (by kernel_rfl) (by kernel_rfl) (fun _ _ _ h => h) (Or.inl ⟨by rfl, ?_⟩) (by assumption) ?_
  rotate_left
  · intro w hSw
    (try dsimp only at hSw)
    go_simp
    (try with_reducible rfl)
  (try simp only [Act.put, List.setIfInBounds_toArray, List.set_cons_zero, List.set_cons_succ])
  refine wpAnyH_take (i := 3) (oi := { dst := some 16, op := Op.load 2 (Operand.tmp 15), type := 2, pos := "cell.go:25", after := #[{ on := 2, ground := Ground.data }], guard := none }) (v := ?_) rfl (by kernel_rfl) (by kernel_rfl) (by kernel_rfl) (fun _ _ _ h => h) (Or.inl ⟨by rfl, ?_⟩) (by assumption) ?_
  rotate_left
  · intro w hSw
    (try dsimp only at hSw)
    go_simp
    (try with_reducible rfl)
  (try simp only [Act.put, List.setIfInBounds_toArray, List.set_cons_zero, List.set_cons_succ])
  refine wpAnyH_take (i := 5) (oi := { dst := some 18, op := Op.fieldAddr 52 (Operand.tmp 2) 1, type := 0, pos := "cell.go:25", after := #[], guard := none }) (v := ?_) rfl (by kernel_rfl) (by kernel_rfl) (by kernel_rfl) (fun _ _ _ h => h) (Or.inl ⟨by rfl, ?_⟩) (by assumption) ?_
  rotate_left
  · intro w hSw
    (try dsimp only at hSw)
    go_simp
    (try with_reducible rfl)
  (try simp only [Act.put, List.setIfInBounds_toArray, List.set_cons_zero, List.set_cons_succ])
  refine wpAnyH_take (i := 6) (oi := { dst := some 19, op := Op.load 50 (Operand.tmp 18), type := 50, pos := "cell.go:25", after := #[{ on := 5, ground := Ground.data }], guard := none }) (v := ?_) rfl (by kernel_rfl) (by kernel_rfl) (by kernel_rfl) (fun _ _ _ h => h) (Or.inl ⟨by rfl, ?_⟩) (by assumption) ?_
  rotate_left
  · intro w hSw
    (try dsimp only at hSw)
    go_simp
    (try with_reducible rfl)
  (try simp only [Act.put, List.setIfInBounds_toArray, List.set_cons_zero, List.set_cons_succ])
  refine wpAnyH_take (i := 7) (oi := { dst := some 20, op := Op.fieldAddr 52 (Operand.tmp 3) 1, type := 0, pos := "cell.go:25", after := #[], guard := none }) (v := ?_) rfl (by kernel_rfl) (by kernel_rfl) (by kernel_rfl) (fun _ _ _ h => h) (Or.inl ⟨by rfl, ?_⟩) (by assumption) ?_
  rotate_left
  · intro w hSw
    (try dsimp only at hSw)
    go_simp
    (try with_reducible rfl)
  (try simp only [Act.put, List.setIfInBounds_toArray, List.set_cons_zero, List.set_cons_succ])
  refine wpAnyH_take (i := 8) (oi := { dst := some 21, op := Op.load 50 (Operand.tmp 20), type := 50, pos := "cell.go:25", after := #[{ on := 7, ground := Ground.data }], guard := none }) (v := ?_) rfl (by kernel_rfl) (by kernel_rfl) (by kernel_rfl) (fun _ _ _ h => h) (Or.inl ⟨by rfl, ?_⟩) (by assumption) ?_
  rotate_left
  · intro w hSw
    (try dsimp only at hSw)
    go_simp
    (try with_reducible rfl)
  (try simp only [Act.put, List.setIfInBounds_toArray, List.set_cons_zero, List.set_cons_succ])
  refine wpAnyH_take (i := 10) (oi := { dst := some 23, op := Op.fieldAddr 52 (Operand.tmp 2) 2, type := 0, pos := "cell.go:25", after := #[], guard := none }) (v := ?_) rfl (by kernel_rfl) (by kernel_rfl) (by kernel_rfl) (fun _ _ _ h => h) (Or.inl ⟨by rfl, ?_⟩) (by assumption) ?_
  rotate_left
  · intro w hSw
    (try dsimp only at hSw)
    go_simp
    (try with_reducible rfl)
  (try simp only [Act.put, List.setIfInBounds_toArray, List.set_cons_zero, List.set_cons_succ])
  refine wpAnyH_take (i := 11) (oi := { dst := some 24, op := Op.load 2 (Operand.tmp 23), type := 2, pos := "cell.go:25", after := #[{ on := 10, ground := Ground.data }], guard := none }) (v := ?_) rfl (by kernel_rfl) (by kernel_rfl) (by kernel_rfl) (fun _ _ _ h => h) (Or.inl ⟨by rfl, ?_⟩) (by assumption) ?_
  rotate_left
  · intro w hSw
    (try dsimp only at hSw)
    go_simp
    (try with_reducible rfl)
  (try simp only [Act.put, List.setIfInBounds_toArray, List.set_cons_zero, List.set_cons_succ])
  refine wpAnyH_take (i := 12) (oi := { dst := some 25, op := Op.fieldAddr 52 (Operand.tmp 3) 2, type := 0, pos := "cell.go:25", after := #[], guard := none }) (v := ?_) rfl (by kernel_rfl) (by kernel_rfl) (by kernel_rfl) (fun _ _ _ h => h) (Or.inl ⟨by rfl, ?_⟩) (by assumption) ?_
  rotate_left
  · intro w hSw
    (try dsimp only at hSw)
    go_simp
    (try with_reducible rfl)
  (try simp only [Act.put, List.setIfInBounds_toArray, List.set_cons_zero, List.set_cons_succ])
  refine wpAnyH_take (i := 13) (oi := { dst := some 26, op := Op.load 2 (Operand.tmp 25), type := 2, pos := "cell.go:25", after := #[{ on := 12, ground := Ground.data }], guard := none }) (v := ?_) rfl (by kernel_rfl) (by kernel_rfl) (by kernel_rfl) (fun _ _ _ h => h) (Or.inl ⟨by rfl, ?_⟩) (by assumption) ?_
  rotate_left
  · intro w hSw
    (try dsimp only at hSw)
    go_simp
    (try with_reducible rfl)
  (try simp only [Act.put, List.setIfInBounds_toArray, List.set_cons_zero, List.set_cons_succ])
  refine wpAnyH_take (i := 14) (oi := { dst := some 27, op := Op.call { callee := Callee.builtin Builtin.min, args := #[Operand.tmp 24, Operand.tmp 26], argTypes := #[2, 2] }, type := 2, pos := "cell.go:25", after := #[{ on := 11, ground := Ground.data }, { on := 13, ground := Ground.data }], guard := none }) (v := ?_) rfl (by kernel_rfl) (by kernel_rfl) (by kernel_rfl) (fun _ _ _ h => h) (Or.inl ⟨by rfl, ?_⟩) (by assumption) ?_
  rotate_left
  · intro w hSw
    (try dsimp only at hSw)
    go_simp
    (try with_reducible rfl)
  (try simp only [Act.put, List.setIfInBounds_toArray, List.set_cons_zero, List.set_cons_succ])
  refine wpAnyH_take (i := 15) (oi := { dst := some 28, op := Op.fieldAddr 52 (Operand.tmp 2) 3, type := 0, pos := "cell.go:25", after := #[], guard := none }) (v := ?_) rfl (by kernel_rfl) (by kernel_rfl) (by kernel_rfl) (fun _ _ _ h => h) (Or.inl ⟨by rfl, ?_⟩) (by assumption) ?_
  rotate_left
  · intro w hSw
    (try dsimp only at hSw)
    go_simp
    (try with_reducible rfl)
  (try simp only [Act.put, List.setIfInBounds_toArray, List.set_cons_zero, List.set_cons_succ])
  refine wpAnyH_take (i := 16) (oi := { dst := some 29, op := Op.load 2 (Operand.tmp 28), type := 2, pos := "cell.go:25", after := #[{ on := 15, ground := Ground.data }], guard := none }) (v := ?_) rfl (by kernel_rfl) (by kernel_rfl) (by kernel_rfl) (fun _ _ _ h => h) (Or.inl ⟨by rfl, ?_⟩) (by assumption) ?_
  rotate_left
  · intro w hSw
    (try dsimp only at hSw)
    go_simp
    (try with_reducible rfl)
  (try simp only [Act.put, List.setIfInBounds_toArray, List.set_cons_zero, List.set_cons_succ])
  refine wpAnyH_take (i := 17) (oi := { dst := some 30, op := Op.fieldAddr 52 (Operand.tmp 3) 3, type := 0, pos := "cell.go:25", after := #[], guard := none }) (v := ?_) rfl (by kernel_rfl) (by kernel_rfl) (by kernel_rfl) (fun _ _ _ h => h) (Or.inl ⟨by rfl, ?_⟩) (by assumption) ?_
  rotate_left
  · intro w hSw
    (try dsimp only at hSw)
    go_simp
    (try with_reducible rfl)
  (try simp only [Act.put, List.setIfInBounds_toArray, List.set_cons_zero, List.set_cons_succ])
  refine wpAnyH_take (i := 18) (oi := { dst := some 31, op := Op.load 2 (Operand.tmp 30), type := 2, pos := "cell.go:25", after := #[{ on := 17, ground := Ground.data }], guard := none }) (v := ?_) rfl (by kernel_rfl) (by kernel_rfl) (by kernel_rfl) (fun _ _ _ h => h) (Or.inl ⟨by rfl, ?_⟩) (by assumption) ?_
  rotate_left
  · intro w hSw
    (try dsimp only at hSw)
    go_simp
    (try with_reducible rfl)
  (try simp only [Act.put, List.setIfInBounds_toArray, List.set_cons_zero, List.set_cons_succ])
  refine wpAnyH_take (i := 19) (oi := { dst := some 32, op := Op.call { callee := Callee.builtin Builtin.max, args := #[Operand.tmp 29, Operand.tmp 31], argTypes := #[2, 2] }, type := 2, pos := "cell.go:25", after := #[{ on := 16, ground := Ground.data }, { on := 18, ground := Ground.data }], guard := none }) (v := ?_) rfl (by kernel_rfl) (by kernel_rfl) (by kernel_rfl) (fun _ _ _ h => h) (Or.inl ⟨by rfl, ?_⟩) (by assumption) ?_
  rotate_left
  · intro w hSw
    (try dsimp only at hSw)
    go_simp
    (try with_reducible rfl)
  (try simp only [Act.put, List.setIfInBounds_toArray, List.set_cons_zero, List.set_cons_succ])
  refine wpAnyH_ready (rs := [4]) (by kernel_rfl) (by simp) ?_
  refine AllReadyH.cons (o := { dst := some 17, op := Op.call { callee := Callee.value (Operand.func 73), args := #[Operand.tmp 14, Operand.tmp 16], argTypes := #[2, 2] }, type := 2, pos := "cell.go:26", after := #[{ on := 1, ground := Ground.data }, { on := 3, ground := Ground.data }], guard := none }) rfl (fun K hK => ?_) AllReadyH.nil
  go_simp
  refine (together_any _ _ _ H.out.2.2.1.1 H.out.2.2.2.1 H.out.2.1).mono ?_
  rintro e w3 ⟨rfl, m3⟩
  have S3 := heldTwo S0 m3
  have R3 := Lib.hid (And.intro (HR.out.1.on m3) (HR.out.2.on HR.out.1.lt m3))
  clear S0 hHeld m3
  (try go_wp2_with fail)
  refine hK.out _ _ S3 (fun hHeld => ?_)
  clear hK K
  (try simp only [Act.put, List.setIfInBounds_toArray, List.set_cons_zero, List.set_cons_succ])
  refine wpAnyH_ready (rs := [9]) (by kernel_rfl) (by simp) ?_
  refine AllReadyH.cons (o := { dst := some 22, op := Op.call { callee := Callee.value (Operand.func 74), args := #[Operand.tmp 19, Operand.tmp 21], argTypes := #[50, 50] }, type := 50, pos := "cell.go:27", after := #[{ on := 6, ground := Ground.data }, { on := 8, ground := Ground.data }, { on := 4, ground := Ground.chain }], guard := none }) rfl (fun K hK => ?_) AllReadyH.nil
  go_simp
  refine (add_any _ _ _ _ _ H.out.2.2.1.2.1.1 H.out.2.2.1.2.1.2 H.out.2.2.2.2.1.1 H.out.2.2.2.2.1.2).mono ?_
  rintro e w4 ⟨rfl, m4⟩
  have S4 := heldTwo S3 m4
  have R4 := Lib.hid (And.intro (R3.out.1.on m4) (R3.out.2.on R3.out.1.lt m4))
  clear S3 hHeld m4
  (try go_wp2_with fail)
  refine hK.out _ _ S4 (fun hHeld => ?_)
  clear hK K
  (try simp only [Act.put, List.setIfInBounds_toArray, List.set_cons_zero, List.set_cons_succ])
  refine wpAnyH_take (i := 20) (oi := { dst := some 33, op := Op.build 52 #[(0, Operand.tmp 17), (1, Operand.tmp 22), (2, Operand.tmp 27), (3, Operand.tmp 32)], type := 52, pos := "cell.go:25", after := #[{ on := 4, ground := Ground.data }, { on := 9, ground := Ground.data }, { on := 14, ground := Ground.data }, { on := 19, ground := Ground.data }], guard := none }) (v := ?_) rfl (by kernel_rfl) (by kernel_rfl) (by kernel_rfl) (fun _ _ _ h => h) (Or.inl ⟨by rfl, ?_⟩) (by assumption) ?_
  rotate_left
  · intro w hSw
    (try dsimp only at hSw)
    go_simp
    (try with_reducible rfl)
  (try simp only [Act.put, List.setIfInBounds_toArray, List.set_cons_zero, List.set_cons_succ])
  obtain ⟨r0, r1, r2, r3, r4⟩ := R4.out.1
  obtain ⟨f0, f1, f2, f3, f4⟩ := R4.out.2
  refine wpAnyH_ready (rs := [21]) (by kernel_rfl) (by simp) ?_
  refine AllReadyH.cons (o := { dst := none, op := Op.store 52 (Operand.tmp 4) (Operand.tmp 33), type := 0, pos := "cell.go:25", after := #[{ on := 20, ground := Ground.data }, { on := 9, ground := Ground.chain }, { on := 0, ground := Ground.phase }, { on := 1, ground := Ground.phase }, { on := 2, ground := Ground.phase }, { on := 3, ground := Ground.phase }, { on := 4, ground := Ground.phase }, { on := 5, ground := Ground.phase }, { on := 6, ground := Ground.phase }, { on := 7, ground := Ground.phase }, { on := 8, ground := Ground.phase }, { on := 9, ground := Ground.phase }, { on := 10, ground := Ground.phase }, { on := 11, ground := Ground.phase }, { on := 12, ground := Ground.phase }, { on := 13, ground := Ground.phase }, { on := 14, ground := Ground.phase }, { on := 15, ground := Ground.phase }, { on := 16, ground := Ground.phase }, { on := 17, ground := Ground.phase }, { on := 18, ground := Ground.phase }, { on := 19, ground := Ground.phase }, { on := 20, ground := Ground.phase }], guard := none }) rfl (fun K hK => ?_) AllReadyH.nil
  go_simp
  clear r0 r1 r2 r3 r4 f0 f1 f2 f3 f4
  have e5 := R4.out.1.set (both a b) R4.out.2
  have S5 := heldPut (both a b) S4 n1 n2 HN.out
  refine hK.out _ _ S5 (fun _ => ?_)
  clear hK K hHeld S4 HR R3 R4
  refine wpAnyH_done (by kernel_rfl) ?_ _
  obtain ⟨⟨x0, x1, x2, x3, x4⟩, _, _⟩ := e5
  have d5 := S5.2.2.2.2.2.2.2.2.2.2
  clear S5
  have hp : Hid (put w4 rb (both a b) = (((((w4.setCell ⟨rb, 0, none⟩ (.int .i64 (cnt2 a.cnt b.cnt))).setCell ⟨rb, 1, none⟩ (.int .i64 (Sat.add a.sn a.so b.sn b.so).1)).setCell ⟨rb, 2, none⟩ (.bool (Sat.add a.sn a.so b.sn b.so).2)).setCell ⟨rb, 3, none⟩ (.int .i64 (min a.mn b.mn))).setCell ⟨rb, 4, none⟩ (.int .i64 (max a.mx b.mx)))) := rfl
  rw [← hp.out]
  generalize put w4 rb (both a b) = w5 at *
  go_wp2_with fail
  have HE := HB.out
  subst HE
  exact bodyPost_ret (v := .agg #[.int .i64 (both a b).cnt, .int .i64 (both a b).sn, .bool (both a b).so, .int .i64 (both a b).mn, .int .i64 (both a b).mx]) (by simp [results, Try.results66, go_sem, x0, x1, x2, x3, x4]) rfl ⟨rfl, d5⟩
end Go.Proofs.Ythiofbohllmfbaa.Ce
namespace Go.Proofs.Ythiofbohllmfbaa.Ce
open Go Go.RowKit Cl
open St Sat
theorem behind_any (a b : Cell) (w : World) (ha : okC a) (hb : okC b) :
    Calls Try.prog 66 #[.agg #[.int .i64 a.cnt, .int .i64 a.sn, .bool a.so, .int .i64 a.mn, .int .i64 a.mx], .agg #[.int .i64 b.cnt, .int .i64 b.sn, .bool b.so, .int .i64 b.mn, .int .i64 b.mx]] w fun e w' => e = .returned (.agg #[.int .i64 (two a b).cnt, .int .i64 (two a b).sn, .bool (two a b).so, .int .i64 (two a b).mn, .int .i64 (two a b).mx]) ∧ Below w.heap.size w w' := by
  by_cases h : b.cnt < 1
  · rw [two_b h]; exact behind_b a b w h
  · by_cases h' : a.cnt < 1
    · rw [two_a h h']; exact behind_a a b w (by omega) h'
    · rw [two_ab h h']; exact behind_ab a b w ha hb (by omega) (by omega)
end Go.Proofs.Ythiofbohllmfbaa.Ce
